/- The statement DiskTells: the walk. -/
import Derived.Test.YtadnmoaemnajgaaBoth
import Derived.Test.YtadnmoaemnajgaaOrd2
import Derived.Test.YtadnmoaemnajgaaSmall
import Derived.Test.YtadnmoaemnajgaaPlayed
namespace Go.Proofs.Ytadnmoaemnajgaa
open Go.RowKit Go.Maps Go.ChangeMaps Go.MapKept
open Dp
attribute [local go_sem ↓] Go.wp_at_zero Go.wp_at_succ
section
variable {w : World} {a : Option Addr} {xs : List Act1}
def TellsInv (w : World) (r b j : Nat) (xs : List Act1) (wr : World) : Prop :=
  ∃ (ds : List (Nat × Dk)) (k : Nat) (D : Dk) (R : Rf), BothM w wr ds r R ∧ ds.length ≤ 2 ∧ ds[k]? = some (b, D) ∧ Sim D R ∧ D.keep.length ≤ 60 ∧ (j ≤ xs.length / 2 → ds.length = 1)
set_option maxHeartbeats 4000000 in
set_option maxRecDepth 100000 in
theorem tells_main (cap : Nat) (f p n : Int) (ha : Args w a xs) (hl : xs.length ≤ 9223372036854775807) (hfew : fewB xs = true) (hf : I64 f) (hp : I64 p) (hn : I64 n) :
    Calls Try.prog 3 #[.slice a xs.length cap, .int .i64 f, .int .i64 p, .int .i64 n] w fun e w' => e = .returned (.bool true) ∧ Below w.heap.size w w' := by
  have HA := Lib.hid ha
  have HR := Lib.hid hfew
  have hlx := (fewB_true hfew).1
  have HFF := Lib.hid hf
  have HPN := Lib.hid (And.intro hp hn)
  clear ha hfew hf hp hn
  go_enter Try.func3, Try.ntmps3
  go_wp2_with (go_at_call 8; refine (small_any _).mono ?_; rintro e w1 ⟨rfl, b1⟩; refine Hid.out ?_)
  refine Lib.hid ?_
  have F1 := Lib.hid (few_at HA.out hl cap b1 HR.out)
  have HN := Lib.hid (mem_new ((Mem.start w).fresh b1))
  clear b1
  go_wp2_with (first | (go_at_call 9; refine F1.out.mono ?_; rintro e w2 ⟨rfl, rfl⟩) | (go_at_call 10; refine HN.out.mono ?_; rintro e w3 ⟨b, rfl, m3⟩; refine Hid.out ?_))
  refine Lib.hid ?_
  have HN2 := Lib.hid (bm_rnew (show Mem w w3 [(b, Dp.new)] from m3) (by simp))
  clear m3 HN F1
  go_wp2_with (go_at_call 11; refine HN2.out.mono ?_; rintro e w4 ⟨r, rfl, m4⟩; refine Hid.out ?_)
  refine Lib.hid ?_
  have M4 := Lib.hid m4
  clear m4 HN2
  go_wp2
  go_loopw [10, 12] (fun d i wr => ∃ (j b : Nat), j ≤ xs.length ∧ d = .pointer (some ⟨b, 0, none⟩) ∧ i = .int .i64 (j : Int) ∧ Hid (TellsInv w r b j xs wr)) (fun _ i _ => xs.length - (intOf i).toNat)
  case atStart => exact ⟨0, b, Nat.zero_le _, rfl, rfl, Lib.hid ⟨[(b, new)], 0, new, Rf.new, M4.out, by simp, rfl, sim_new, by simp [new], fun _ => rfl⟩⟩
  case round =>
    obtain ⟨j, b, hj, rfl, rfl, HI⟩ := hrel
    obtain ⟨ds, k, D, R, hm, hds, hk, hsim, hkl, hone⟩ := HI.out
    have M := Lib.hid hm
    have HDS := Lib.hid hds
    have HKD := Lib.hid hk
    have HSM := Lib.hid hsim
    have HKL := Lib.hid hkl
    have HONE := Lib.hid hone
    clear hm hk hsim hkl hone HI hds
    by_cases hlt : j < xs.length
    · obtain ⟨x, hx⟩ : ∃ x, xs[j]? = some x := ⟨_, List.getElem?_eq_getElem hlt⟩
      obtain ⟨bb, off, xa, xc, rfl, hcc, hnn, ho⟩ := HA.out.get (Below.refl _ _) hx
      obtain ⟨A0, A1, A2, A3, A4⟩ := hcc
      have HX := Lib.hid hx
      have HF := Lib.hid ((fewB_true HR.out).2 x (List.mem_of_getElem? hx))
      have HO := Lib.hid ho
      have HNN := Lib.hid hnn
      have hgood := M.out.good HKD.out
      have hact := sim_act HSM.out hgood x
      have HRA := Lib.hid hact.1
      have HS2 := Lib.hid hact.2
      have HIN := Lib.hid (HSM.out.inn hgood.inn hgood.few)
      have hdr : Below wr.heap.size wr wr.drew := (Below.refl _ _).drew
      have HDO := Lib.hid (bm_do (M.out.fresh hdr) (by have := HDS.out; omega) HKD.out x HO.out HF.out xa xc (HNN.out.to (M.out.fresh hdr).below))
      have HSET := Lib.hid (show (ds.set k (b, (Dk.act D x).2))[k]? = some (b, (Dk.act D x).2) from List.getElem?_set_self (List.getElem?_eq_some_iff.1 HKD.out).1)
      have HAK := Lib.hid (act_keep HKL.out HF.out.2.1)
      have S0 : Below w.heap.size w wr.drew := (M.out.fresh hdr).below
      have hj0 : (0 : Int) ≤ (j : Int) := by omega
      have hj1 : (j : Int) < (xs.length : Int) := by omega
      clear hx ho hnn hgood hact hdr
      obtain ⟨u, hu⟩ : ∃ u, (Dk.act D x).1 = u := ⟨_, rfl⟩
      rw [hu] at HRA HDO
      clear hu
      go_wp2
      refine region_till 11 (fun w' => Below w.heap.size w w') (by kernel_rfl) ?_
      refine till_take 0 6 false (v := ?v0) (by kernel_rfl) (by kernel_rfl) (by kernel_rfl) (by kernel_rfl) (by kernel_rfl) (fun _ _ _ h => h) ?hw0 S0 ?hy0 ?rest0
      case hw0 => (simp only [List.getElem?_toArray, List.getElem?_cons_zero, Option.elim]; rfl)
      case hy0 => (simp only [List.getElem?_toArray, List.getElem?_cons_zero, Option.elim]; intro wx _; go_simp; with_reducible rfl)
      simp only [dstOf, List.getElem?_toArray, List.getElem?_cons_zero, Option.bind, Act.put, List.setIfInBounds_toArray, List.set_cons_zero, List.set_cons_succ]
      refine till_take 1 6 false (v := ?v1) (by kernel_rfl) (by kernel_rfl) (by kernel_rfl) (by kernel_rfl) (by kernel_rfl) (fun _ _ _ h => h) ?hw1 S0 ?hy1 ?rest1
      case hw1 => (simp only [List.getElem?_toArray, List.getElem?_cons_zero, List.getElem?_cons_succ, Option.elim]; rfl)
      case hy1 => (simp only [List.getElem?_toArray, List.getElem?_cons_zero, List.getElem?_cons_succ, Option.elim]; intro wx _; go_simp; with_reducible rfl)
      simp only [dstOf, List.getElem?_toArray, List.getElem?_cons_zero, List.getElem?_cons_succ, Option.bind, Act.put, List.setIfInBounds_toArray, List.set_cons_zero, List.set_cons_succ]
      refine till_take 2 6 false (v := ?v2) (by kernel_rfl) (by kernel_rfl) (by kernel_rfl) (by kernel_rfl) (by kernel_rfl) (fun _ _ _ h => h) ?hw2 S0 ?hy2 ?rest2
      case hw2 => (simp only [List.getElem?_toArray, List.getElem?_cons_zero, List.getElem?_cons_succ, Option.elim]; rfl)
      case hy2 => (simp only [List.getElem?_toArray, List.getElem?_cons_zero, List.getElem?_cons_succ, Option.elim]; intro wx _; go_simp; with_reducible rfl)
      simp only [dstOf, List.getElem?_toArray, List.getElem?_cons_zero, List.getElem?_cons_succ, Option.bind, Act.put, List.setIfInBounds_toArray, List.set_cons_zero, List.set_cons_succ]
      refine till_take 3 6 false (v := ?v3) (by kernel_rfl) (by kernel_rfl) (by kernel_rfl) (by kernel_rfl) (by kernel_rfl) (fun _ _ _ h => h) ?hw3 S0 ?hy3 ?rest3
      case hw3 => (simp only [List.getElem?_toArray, List.getElem?_cons_zero, List.getElem?_cons_succ, Option.elim]; rfl)
      case hy3 => (simp only [List.getElem?_toArray, List.getElem?_cons_zero, List.getElem?_cons_succ, Option.elim]; intro wx _; go_simp; with_reducible rfl)
      simp only [dstOf, List.getElem?_toArray, List.getElem?_cons_zero, List.getElem?_cons_succ, Option.bind, Act.put, List.setIfInBounds_toArray, List.set_cons_zero, List.set_cons_succ]
      refine till_take 4 6 true (v := ?v4) (by kernel_rfl) (by kernel_rfl) (by kernel_rfl) (by kernel_rfl) (by kernel_rfl) (fun _ _ _ h => h) ?hw4 S0 ?hy4 ?rest4
      case hw4 => (simp only [List.getElem?_toArray, List.getElem?_cons_zero, List.getElem?_cons_succ, Option.elim]; rfl)
      case hy4 => (simp only [List.getElem?_toArray, List.getElem?_cons_zero, List.getElem?_cons_succ, Option.elim]; intro wx hx; have x0 := below_cell A0 (hx trivial); have x1 := below_cell A1 (hx trivial); have x2 := below_cell A2 (hx trivial); have x3 := below_cell A3 (hx trivial); have x4 := below_cell A4 (hx trivial); go_simp; with_reducible rfl)
      simp only [dstOf, List.getElem?_toArray, List.getElem?_cons_zero, List.getElem?_cons_succ, Option.bind, Act.put, List.setIfInBounds_toArray, List.set_cons_zero, List.set_cons_succ]
      refine till_take 6 6 false (v := ?v6) (by kernel_rfl) (by kernel_rfl) (by kernel_rfl) (by kernel_rfl) (by kernel_rfl) (fun _ _ _ h => h) ?hw6 S0 ?hy6 ?rest6
      case hw6 => (simp only [List.getElem?_toArray, List.getElem?_cons_zero, List.getElem?_cons_succ, Option.elim]; rfl)
      case hy6 => (simp only [List.getElem?_toArray, List.getElem?_cons_zero, List.getElem?_cons_succ, Option.elim]; intro wx _; go_simp; with_reducible rfl)
      simp only [dstOf, List.getElem?_toArray, List.getElem?_cons_zero, List.getElem?_cons_succ, Option.bind, Act.put, List.setIfInBounds_toArray, List.set_cons_zero, List.set_cons_succ]
      refine till_take 7 6 false (v := ?v7) (by kernel_rfl) (by kernel_rfl) (by kernel_rfl) (by kernel_rfl) (by kernel_rfl) (fun _ _ _ h => h) ?hw7 S0 ?hy7 ?rest7
      case hw7 => (simp only [List.getElem?_toArray, List.getElem?_cons_zero, List.getElem?_cons_succ, Option.elim]; rfl)
      case hy7 => (simp only [List.getElem?_toArray, List.getElem?_cons_zero, List.getElem?_cons_succ, Option.elim]; intro wx _; go_simp; with_reducible rfl)
      simp only [dstOf, List.getElem?_toArray, List.getElem?_cons_zero, List.getElem?_cons_succ, Option.bind, Act.put, List.setIfInBounds_toArray, List.set_cons_zero, List.set_cons_succ]
      refine till_take 8 6 false (v := ?v8) (by kernel_rfl) (by kernel_rfl) (by kernel_rfl) (by kernel_rfl) (by kernel_rfl) (fun _ _ _ h => h) ?hw8 S0 ?hy8 ?rest8
      case hw8 => (simp only [List.getElem?_toArray, List.getElem?_cons_zero, List.getElem?_cons_succ, Option.elim]; rfl)
      case hy8 => (simp only [List.getElem?_toArray, List.getElem?_cons_zero, List.getElem?_cons_succ, Option.elim]; intro wx _; go_simp; with_reducible rfl)
      simp only [dstOf, List.getElem?_toArray, List.getElem?_cons_zero, List.getElem?_cons_succ, Option.bind, Act.put, List.setIfInBounds_toArray, List.set_cons_zero, List.set_cons_succ]
      refine till_take 9 6 false (v := ?v9) (by kernel_rfl) (by kernel_rfl) (by kernel_rfl) (by kernel_rfl) (by kernel_rfl) (fun _ _ _ h => h) ?hw9 S0 ?hy9 ?rest9
      case hw9 => (simp only [List.getElem?_toArray, List.getElem?_cons_zero, List.getElem?_cons_succ, Option.elim]; rfl)
      case hy9 => (simp only [List.getElem?_toArray, List.getElem?_cons_zero, List.getElem?_cons_succ, Option.elim]; intro wx _; go_simp; with_reducible rfl)
      simp only [dstOf, List.getElem?_toArray, List.getElem?_cons_zero, List.getElem?_cons_succ, Option.bind, Act.put, List.setIfInBounds_toArray, List.set_cons_zero, List.set_cons_succ]
      refine till_take 10 6 true (v := ?v10) (by kernel_rfl) (by kernel_rfl) (by kernel_rfl) (by kernel_rfl) (by kernel_rfl) (fun _ _ _ h => h) ?hw10 S0 ?hy10 ?rest10
      case hw10 => (simp only [List.getElem?_toArray, List.getElem?_cons_zero, List.getElem?_cons_succ, Option.elim]; rfl)
      case hy10 => (simp only [List.getElem?_toArray, List.getElem?_cons_zero, List.getElem?_cons_succ, Option.elim]; intro wx hx; have x0 := below_cell A0 (hx trivial); have x1 := below_cell A1 (hx trivial); have x2 := below_cell A2 (hx trivial); have x3 := below_cell A3 (hx trivial); have x4 := below_cell A4 (hx trivial); go_simp; with_reducible rfl)
      simp only [dstOf, List.getElem?_toArray, List.getElem?_cons_zero, List.getElem?_cons_succ, Option.bind, Act.put, List.setIfInBounds_toArray, List.set_cons_zero, List.set_cons_succ]
      refine till_before 5 (by kernel_rfl) (fun K hK => ?_)
      simp only [List.getElem?_toArray, List.getElem?_cons_zero, List.getElem?_cons_succ, Option.elim]
      rw [if_pos (by rfl)]
      go_simp
      go_at_call 12
      refine HDO.out.mono ?_
      rintro e w6 ⟨rfl, m6⟩
      refine hK.out _ _ m6.below ?_
      clear hK K
      try simp only [Act.put, List.setIfInBounds_toArray, List.set_cons_zero, List.set_cons_succ]
      clear S0
      have S0 := m6.below
      have HTL := Lib.hid (bm_tell m6 (by rw [List.length_set]; have := HDS.out; omega) HIN.out x HO.out HF.out xa xc (HNN.out.to m6.below))
      rw [HRA.out] at HTL
      clear m6 HDO
      refine till_step 11 (by kernel_rfl) (by kernel_rfl) (fun K hK => ?_)
      simp only [List.getElem?_toArray, List.getElem?_cons_zero, List.getElem?_cons_succ, Option.elim]
      rw [if_pos (by rfl)]
      go_simp
      go_at_call 13
      refine HTL.out.mono ?_
      rintro e w7 ⟨rfl, m7⟩
      refine hK.out _ _ ?_
      clear hK K
      try simp only [Act.put, List.setIfInBounds_toArray, List.set_cons_zero, List.set_cons_succ]
      clear S0
      have M7 := Lib.hid m7
      have HDW := Lib.hid (bm_down M7.out HSET.out)
      have HRD := Lib.hid (bm_rdown M7.out)
      have HSZ := Lib.hid (bm_size M7.out HSET.out f HFF.out)
      have HRS := Lib.hid (bm_rsize M7.out f HFF.out)
      rw [HS2.out.down] at HRD
      rw [sim_size HS2.out M7.out.rok f] at HRS
      clear m7 HTL
      refine till_late 12 (v := ?v12) (by kernel_rfl) (by kernel_rfl) (by kernel_rfl) (by kernel_rfl) (fun _ _ _ h => h) (by kernel_rfl) ?hw12 ?hy12 ?rest12
      case hw12 => (simp only [List.getElem?_toArray, List.getElem?_cons_zero, List.getElem?_cons_succ, Option.elim]; rfl)
      case hy12 => (simp only [List.getElem?_toArray, List.getElem?_cons_zero, List.getElem?_cons_succ, Option.elim]; intro wx; go_simp; with_reducible rfl)
      simp only [dstOf, List.getElem?_toArray, List.getElem?_cons_zero, List.getElem?_cons_succ, Option.bind, Act.put, List.setIfInBounds_toArray, List.set_cons_zero, List.set_cons_succ]
      refine till_late 13 (v := ?v13) (by kernel_rfl) (by kernel_rfl) (by kernel_rfl) (by kernel_rfl) (fun _ _ _ h => h) (by kernel_rfl) ?hw13 ?hy13 ?rest13
      case hw13 => (simp only [List.getElem?_toArray, List.getElem?_cons_zero, List.getElem?_cons_succ, Option.elim]; rfl)
      case hy13 => (simp only [List.getElem?_toArray, List.getElem?_cons_zero, List.getElem?_cons_succ, Option.elim]; intro wx; go_simp; with_reducible rfl)
      simp only [dstOf, List.getElem?_toArray, List.getElem?_cons_zero, List.getElem?_cons_succ, Option.bind, Act.put, List.setIfInBounds_toArray, List.set_cons_zero, List.set_cons_succ]
      refine till_late 14 (v := ?v14) (by kernel_rfl) (by kernel_rfl) (by kernel_rfl) (by kernel_rfl) (fun _ _ _ h => h) (by kernel_rfl) ?hw14 ?hy14 ?rest14
      case hw14 => (simp only [List.getElem?_toArray, List.getElem?_cons_zero, List.getElem?_cons_succ, Option.elim]; rfl)
      case hy14 => (simp only [List.getElem?_toArray, List.getElem?_cons_zero, List.getElem?_cons_succ, Option.elim]; intro wx; go_simp; with_reducible rfl)
      simp only [dstOf, List.getElem?_toArray, List.getElem?_cons_zero, List.getElem?_cons_succ, Option.bind, Act.put, List.setIfInBounds_toArray, List.set_cons_zero, List.set_cons_succ]
      refine till_late 16 (v := ?v16) (by kernel_rfl) (by kernel_rfl) (by kernel_rfl) (by kernel_rfl) (fun _ _ _ h => h) (by kernel_rfl) ?hw16 ?hy16 ?rest16
      case hw16 => (simp only [List.getElem?_toArray, List.getElem?_cons_zero, List.getElem?_cons_succ, Option.elim]; rfl)
      case hy16 => (simp only [List.getElem?_toArray, List.getElem?_cons_zero, List.getElem?_cons_succ, Option.elim]; intro wx; go_simp; with_reducible rfl)
      simp only [dstOf, List.getElem?_toArray, List.getElem?_cons_zero, List.getElem?_cons_succ, Option.bind, Act.put, List.setIfInBounds_toArray, List.set_cons_zero, List.set_cons_succ]
      refine till_step 15 (by kernel_rfl) (by kernel_rfl) (fun K hK => ?_)
      simp only [List.getElem?_toArray, List.getElem?_cons_zero, List.getElem?_cons_succ, Option.elim]
      rw [if_pos (by rfl)]
      go_simp
      go_at_call 14
      refine HDW.out.mono ?_
      rintro e w8 ⟨rfl, rfl⟩
      refine hK.out _ _ ?_
      clear hK K
      try simp only [Act.put, List.setIfInBounds_toArray, List.set_cons_zero, List.set_cons_succ]
      refine till_step 17 (by kernel_rfl) (by kernel_rfl) (fun K hK => ?_)
      simp only [List.getElem?_toArray, List.getElem?_cons_zero, List.getElem?_cons_succ, Option.elim]
      rw [if_pos (by rfl)]
      go_simp
      go_at_call 15
      refine HRD.out.mono ?_
      rintro e w8 ⟨rfl, rfl⟩
      refine hK.out _ _ ?_
      clear hK K
      try simp only [Act.put, List.setIfInBounds_toArray, List.set_cons_zero, List.set_cons_succ]
      refine till_late 18 (v := ?v18) (by kernel_rfl) (by kernel_rfl) (by kernel_rfl) (by kernel_rfl) (fun _ _ _ h => h) (by kernel_rfl) ?hw18 ?hy18 ?rest18
      case hw18 => (simp only [List.getElem?_toArray, List.getElem?_cons_zero, List.getElem?_cons_succ, Option.elim]; rfl)
      case hy18 => (simp only [List.getElem?_toArray, List.getElem?_cons_zero, List.getElem?_cons_succ, Option.elim]; intro wx; go_simp; with_reducible rfl)
      simp only [dstOf, List.getElem?_toArray, List.getElem?_cons_zero, List.getElem?_cons_succ, Option.bind, Act.put, List.setIfInBounds_toArray, List.set_cons_zero, List.set_cons_succ]
      refine till_late 19 (v := ?v19) (by kernel_rfl) (by kernel_rfl) (by kernel_rfl) (by kernel_rfl) (fun _ _ _ h => h) (by kernel_rfl) ?hw19 ?hy19 ?rest19
      case hw19 => (simp only [List.getElem?_toArray, List.getElem?_cons_zero, List.getElem?_cons_succ, Option.elim]; rfl)
      case hy19 => (simp only [List.getElem?_toArray, List.getElem?_cons_zero, List.getElem?_cons_succ, Option.elim]; intro wx; go_simp; with_reducible rfl)
      simp only [dstOf, List.getElem?_toArray, List.getElem?_cons_zero, List.getElem?_cons_succ, Option.bind, Act.put, List.setIfInBounds_toArray, List.set_cons_zero, List.set_cons_succ]
      refine till_late 20 (v := ?v20) (by kernel_rfl) (by kernel_rfl) (by kernel_rfl) (by kernel_rfl) (fun _ _ _ h => h) (by kernel_rfl) ?hw20 ?hy20 ?rest20
      case hw20 => (simp only [List.getElem?_toArray, List.getElem?_cons_zero, List.getElem?_cons_succ, Option.elim]; rfl)
      case hy20 => (simp only [List.getElem?_toArray, List.getElem?_cons_zero, List.getElem?_cons_succ, Option.elim]; intro wx; go_simp; with_reducible rfl)
      simp only [dstOf, List.getElem?_toArray, List.getElem?_cons_zero, List.getElem?_cons_succ, Option.bind, Act.put, List.setIfInBounds_toArray, List.set_cons_zero, List.set_cons_succ]
      refine till_late 21 (v := ?v21) (by kernel_rfl) (by kernel_rfl) (by kernel_rfl) (by kernel_rfl) (fun _ _ _ h => h) (by kernel_rfl) ?hw21 ?hy21 ?rest21
      case hw21 => (simp only [List.getElem?_toArray, List.getElem?_cons_zero, List.getElem?_cons_succ, Option.elim]; rfl)
      case hy21 => (simp only [List.getElem?_toArray, List.getElem?_cons_zero, List.getElem?_cons_succ, Option.elim]; intro wx; go_simp; with_reducible rfl)
      simp only [dstOf, List.getElem?_toArray, List.getElem?_cons_zero, List.getElem?_cons_succ, Option.bind, Act.put, List.setIfInBounds_toArray, List.set_cons_zero, List.set_cons_succ]
      refine till_late 22 (v := ?v22) (by kernel_rfl) (by kernel_rfl) (by kernel_rfl) (by kernel_rfl) (fun _ _ _ h => h) (by kernel_rfl) ?hw22 ?hy22 ?rest22
      case hw22 => (simp only [List.getElem?_toArray, List.getElem?_cons_zero, List.getElem?_cons_succ, Option.elim]; rfl)
      case hy22 => (simp only [List.getElem?_toArray, List.getElem?_cons_zero, List.getElem?_cons_succ, Option.elim]; intro wx; go_simp; with_reducible rfl)
      simp only [dstOf, List.getElem?_toArray, List.getElem?_cons_zero, List.getElem?_cons_succ, Option.bind, Act.put, List.setIfInBounds_toArray, List.set_cons_zero, List.set_cons_succ]
      refine till_late 24 (v := ?v24) (by kernel_rfl) (by kernel_rfl) (by kernel_rfl) (by kernel_rfl) (fun _ _ _ h => h) (by kernel_rfl) ?hw24 ?hy24 ?rest24
      case hw24 => (simp only [List.getElem?_toArray, List.getElem?_cons_zero, List.getElem?_cons_succ, Option.elim]; rfl)
      case hy24 => (simp only [List.getElem?_toArray, List.getElem?_cons_zero, List.getElem?_cons_succ, Option.elim]; intro wx; go_simp; with_reducible rfl)
      simp only [dstOf, List.getElem?_toArray, List.getElem?_cons_zero, List.getElem?_cons_succ, Option.bind, Act.put, List.setIfInBounds_toArray, List.set_cons_zero, List.set_cons_succ]
      refine till_late 25 (v := ?v25) (by kernel_rfl) (by kernel_rfl) (by kernel_rfl) (by kernel_rfl) (fun _ _ _ h => h) (by kernel_rfl) ?hw25 ?hy25 ?rest25
      case hw25 => (simp only [List.getElem?_toArray, List.getElem?_cons_zero, List.getElem?_cons_succ, Option.elim]; rfl)
      case hy25 => (simp only [List.getElem?_toArray, List.getElem?_cons_zero, List.getElem?_cons_succ, Option.elim]; intro wx; go_simp; with_reducible rfl)
      simp only [dstOf, List.getElem?_toArray, List.getElem?_cons_zero, List.getElem?_cons_succ, Option.bind, Act.put, List.setIfInBounds_toArray, List.set_cons_zero, List.set_cons_succ]
      refine till_step 23 (by kernel_rfl) (by kernel_rfl) (fun K hK => ?_)
      simp only [List.getElem?_toArray, List.getElem?_cons_zero, List.getElem?_cons_succ, Option.elim]
      rw [if_pos (by rfl)]
      go_simp
      go_at_call 16
      refine HSZ.out.mono ?_
      rintro e w8 ⟨rfl, rfl⟩
      refine hK.out _ _ ?_
      clear hK K
      try simp only [Act.put, List.setIfInBounds_toArray, List.set_cons_zero, List.set_cons_succ]
      refine till_step 26 (by kernel_rfl) (by kernel_rfl) (fun K hK => ?_)
      simp only [List.getElem?_toArray, List.getElem?_cons_zero, List.getElem?_cons_succ, Option.elim]
      rw [if_pos (by rfl)]
      go_simp
      go_at_call 17
      refine HRS.out.mono ?_
      rintro e w9 ⟨rfl, m9⟩
      have M9 := Lib.hid m9
      clear m9
      refine hK.out _ _ ?_
      clear hK K
      try simp only [Act.put, List.setIfInBounds_toArray, List.set_cons_zero, List.set_cons_succ]
      refine till_late 27 (v := ?v27) (by kernel_rfl) (by kernel_rfl) (by kernel_rfl) (by kernel_rfl) (fun _ _ _ h => h) (by kernel_rfl) ?hw27 ?hy27 ?rest27
      case hw27 => (simp only [List.getElem?_toArray, List.getElem?_cons_zero, List.getElem?_cons_succ, Option.elim]; rfl)
      case hy27 => (simp only [List.getElem?_toArray, List.getElem?_cons_zero, List.getElem?_cons_succ, Option.elim]; intro wx; go_simp; with_reducible rfl)
      simp only [dstOf, List.getElem?_toArray, List.getElem?_cons_zero, List.getElem?_cons_succ, Option.bind, Act.put, List.setIfInBounds_toArray, List.set_cons_zero, List.set_cons_succ]
      refine till_late 28 (v := ?v28) (by kernel_rfl) (by kernel_rfl) (by kernel_rfl) (by kernel_rfl) (fun _ _ _ h => h) (by kernel_rfl) ?hw28 ?hy28 ?rest28
      case hw28 => (simp only [List.getElem?_toArray, List.getElem?_cons_zero, List.getElem?_cons_succ, Option.elim]; rfl)
      case hy28 => (simp only [List.getElem?_toArray, List.getElem?_cons_zero, List.getElem?_cons_succ, Option.elim]; intro wx; go_simp; with_reducible rfl)
      simp only [dstOf, List.getElem?_toArray, List.getElem?_cons_zero, List.getElem?_cons_succ, Option.bind, Act.put, List.setIfInBounds_toArray, List.set_cons_zero, List.set_cons_succ]
      refine till_end (by kernel_rfl) ?_ _
      have hq : (xs.length : Int).tdiv 2 = ((xs.length / 2 : Nat) : Int) := (Int.ofNat_tdiv _ 2).symm
      clear M M7 HDW HRD HSZ HRS HSM HRA HIN A0 A1 A2 A3 A4
      by_cases hmid : j = xs.length / 2
      · obtain ⟨p0, hp0⟩ : ∃ p0, ds = [p0] := List.length_eq_one_iff.1 (HONE.out (by omega))
        subst hp0
        have hk0 : k = 0 := by
          have := (List.getElem?_eq_some_iff.1 HKD.out).1
          simp at this; exact this
        subst hk0
        have hpp : p0 = (b, D) := by have := HKD.out; simpa using this
        subst hpp
        have HCP := Lib.hid (bm_copy (i := 0) (show BothM w w9 [(b, (Dk.act D x).2)] r (R.act x).2 from M9.out) (by simp) rfl (by have := HAK.out; omega))
        have hmid' : ((j : Int) == ((xs.length / 2 : Nat) : Int)) = true := by rw [beq_iff_eq]; omega
        obtain ⟨x0, hx0⟩ : ∃ x0, xs[0]? = some x0 := ⟨_, List.getElem?_eq_getElem (by omega)⟩
        obtain ⟨_, _, ya, yc, hae, hcc, hnn0, ho0⟩ := HA.out.get (Below.refl _ _) hx0
        cases hae
        obtain ⟨B0, B1, B2, B3, B4⟩ := hcc
        simp only [Nat.zero_mul, Nat.add_zero] at B0 B1 B2 B3 B4
        have HF0 := Lib.hid ((fewB_true HR.out).2 x0 (List.mem_of_getElem? hx0))
        have HO0 := Lib.hid ho0
        have HNN0 := Lib.hid hnn0
        have HBB := Lib.hid (And.intro B0 (And.intro B1 (And.intro B2 (And.intro B3 B4))))
        have HMD := Lib.hid hmid
        clear hx0 hnn0 ho0 B0 B1 B2 B3 B4 hmid HSET HONE HKD
        have hlen0 : (0 : Int) < (xs.length : Int) := by omega
        go_wp2_with (go_at_call 18; refine HCP.out.mono ?_; rintro e w10 ⟨c, rfl, m10⟩; refine Hid.out ?_)
        refine Lib.hid ?_
        have M10 := Lib.hid (show BothM w w10 [(b, (Dk.act D x).2), (c, (Dk.act D x).2)] r (R.act x).2 from m10)
        have B0 := below_cell HBB.out.1 M10.out.below
        have B1 := below_cell HBB.out.2.1 M10.out.below
        have B2 := below_cell HBB.out.2.2.1 M10.out.below
        have B3 := below_cell HBB.out.2.2.2.1 M10.out.below
        have B4 := below_cell HBB.out.2.2.2.2 M10.out.below
        have HDO2 := Lib.hid (bm_do (i := 0) M10.out (by simp) rfl x0 HO0.out HF0.out ya yc (HNN0.out.to M10.out.below))
        clear m10 HCP
        go_wp2_with (go_at_call 12; refine HDO2.out.mono ?_; rintro e w11 ⟨rfl, m11⟩; refine Hid.out ?_)
        refine Lib.hid ?_
        have M11 := Lib.hid (show BothM w w11 [(b, (Dk.act (Dk.act D x).2 x0).2), (c, (Dk.act D x).2)] r (R.act x).2 from m11)
        have HSY := Lib.hid (bm_sync (i := 0) M11.out (by simp) rfl f HFF.out)
        clear m11 HDO2 B0 B1 B2 B3 B4
        go_wp2_with (go_at_call 19; refine HSY.out.mono ?_; rintro e w12 ⟨rfl, m12⟩; have M12 := Lib.hid (show BothM w w12 [(b, ((Dk.act (Dk.act D x).2 x0).2.sync f).2), (c, (Dk.act D x).2)] r (R.act x).2 from m12); clear m12)
        go_roundw
        case rel => exact ⟨j + 1, c, by omega, rfl, by go_num, Lib.hid ⟨_, 1, _, _, M12.out, by simp, rfl, HS2.out, HAK.out, fun h => absurd h (by have := HMD.out; omega)⟩⟩
        case measure => simp [intOf]; omega
      · have hmid' : ((j : Int) == ((xs.length / 2 : Nat) : Int)) = false := by rw [beq_eq_false_iff_ne]; omega
        have HMD := Lib.hid hmid
        clear hmid
        go_wp2
        go_roundw
        case rel => exact ⟨j + 1, b, by omega, rfl, by go_num, Lib.hid ⟨_, k, _, _, M9.out, by rw [List.length_set]; exact HDS.out, HSET.out, HS2.out, HAK.out, fun h => by rw [List.length_set]; exact HONE.out (by omega)⟩⟩
        case measure => simp [intOf]; omega
    · have HQ1 := Lib.hid (bm_read M.out HKD.out f p n HFF.out HPN.out.1 HPN.out.2)
      have hse := sim_read HSM.out f p n
      obtain ⟨s, hs⟩ : ∃ s, D.read f p n = s := ⟨_, rfl⟩
      rw [hs] at hse HQ1
      have HSE := Lib.hid hse
      clear hse hs
      go_wp2_with (go_at_call 20; refine HQ1.out.mono ?_; rintro e w5 ⟨rfl, m5⟩; refine Hid.out ?_)
      refine Lib.hid ?_
      have HQ2 := Lib.hid (bm_rread m5 f p n HFF.out)
      rw [HSE.out] at HQ2
      clear m5 HQ1
      go_wp2_with (go_at_call 21; refine HQ2.out.mono ?_; rintro e w6 ⟨rfl, m6⟩; have M6 := Lib.hid m6; clear m6)
      go_ret
      exact ⟨by first | rfl | simp, M6.out.below⟩
set_option maxRecDepth 100000 in
theorem tells_walk (cap : Nat) (f p n : Int) (ha : Args w a xs) (hl : xs.length ≤ 9223372036854775807) (hf : I64 f) (hp : I64 p) (hn : I64 n) :
    Calls Try.prog 3 #[.slice a xs.length cap, .int .i64 f, .int .i64 p, .int .i64 n] w fun e w' => e = .returned (.bool true) ∧ Below w.heap.size w w' := by
  cases hr : fewB xs with
  | true => exact tells_main cap f p n ha hl hr hf hp hn
  | false =>
    have HA := Lib.hid ha
    have HR := Lib.hid hr
    clear ha hr hf hp hn
    go_enter Try.func3, Try.ntmps3
    go_wp2_with (go_at_call 8; refine (small_any _).mono ?_; rintro e w1 ⟨rfl, b1⟩; refine Hid.out ?_)
    refine Lib.hid ?_
    have B1 := Lib.hid b1
    have F1 := Lib.hid (few_at HA.out hl cap b1 HR.out)
    clear b1
    go_wp2_with (go_at_call 9; refine F1.out.mono ?_; rintro e w2 ⟨rfl, rfl⟩)
    go_ret
    exact ⟨rfl, B1.out⟩
end
end Go.Proofs.Ytadnmoaemnajgaa
