/- JournalTells, walked. -/
import Derived.Test.YtjbcgahdiolhhaaGreatDoorMG
import Derived.Deep.CutRange
import Derived.Deep.QuietTactic
import Derived.BigQuiet
namespace Go.Proofs.YtjbcgahdiolhhaaGreatDoor.D2
open Go.RowKit Go.Maps Go.ChangeMaps Go.MapKept
open Dp Jp
attribute [local go_sem ↓] Go.wp_at_zero Go.wp_at_succ

/-- Where both journals are, if there are any. -/
inductive TAt : Option (Nat × Nat × Jn) → Value → Value → Prop
  | no : TAt none (.pointer none) (.pointer none)
  | yes (b c : Nat) (J : Jn) : TAt (some (b, c, J)) (.pointer (some ⟨b, 0, none⟩)) (.pointer (some ⟨c, 0, none⟩))
def tjobs (d r : Nat) (D : Dk) : Option (Nat × Nat × Jn) → List Ob
  | none => [.disk d D, .rdisk r D]
  | some (b, c, J) => [.disk d D, .rdisk r D, .jour b d J, .rjour c r J]
def jnOf (jx : Option (Nat × Nat × Jn)) : Option Jn := jx.map fun p => p.2.2
theorem tjobs_take {w0 w : World} {d r : Nat} {D : Dk} {jx : Option (Nat × Nat × Jn)} (h : OMem w0 w (tjobs d r D jx)) : OMem w0 w [.disk d D, .rdisk r D] := by
  cases jx with
  | none => exact h
  | some p => exact h.take 2
theorem tjobs_get0 {d r : Nat} {D : Dk} {jx : Option (Nat × Nat × Jn)} : (tjobs d r D jx)[0]? = some (.disk d D) := by cases jx <;> rfl
theorem tjobs_get1 {d r : Nat} {D : Dk} {jx : Option (Nat × Nat × Jn)} {o : Ob} : ((tjobs d r D jx).set 0 o)[1]? = some (.rdisk r D) := by cases jx <;> rfl
theorem tjobs_set {d r : Nat} {D D' : Dk} {jx : Option (Nat × Nat × Jn)} : ((tjobs d r D jx).set 0 (.disk d D')).set 1 (.rdisk r D') = tjobs d r D' jx := by cases jx <;> rfl

section
variable {w : World} {a : Option Addr} {xs : List Op1}
set_option maxHeartbeats 2000000 in
set_option maxRecDepth 100000 in
theorem jtells_out (cap : Nat) (ho : OArgs w a xs) (hl : xs.length ≤ 9223372036854775807) (hb : fewO xs = false) (he : Env w) :
    Calls Tryz.prog 3 #[.slice a xs.length cap] w fun e w' => e = .returned (.bool true) ∧ Below w.heap.size w w' := by
  have HO := Lib.hid ho
  have HR := Lib.hid hb
  clear ho hb
  go_enter Tryz.func3, Tryz.ntmps3
  go_wp2_with (go_at_call 4; refine (small_any _ he).mono ?_; rintro e w1 ⟨rfl, b1⟩; refine Hid.out ?_)
  refine Lib.hid ?_
  have B1 := Lib.hid b1
  have F1 := Lib.hid (few_at HO.out hl cap b1 HR.out)
  clear b1
  go_wp2_with (go_at_call 5; refine F1.out.mono ?_; rintro e w2 ⟨rfl, rfl⟩)
  go_ret
  exact ⟨rfl, B1.out⟩

set_option maxHeartbeats 16000000 in
set_option maxRecDepth 100000 in
theorem jtells_main (cap : Nat) (ho : OArgs w a xs) (hfx : fewO xs = true) (he : Env w) :
    Calls Tryz.prog 3 #[.slice a xs.length cap] w fun e w' => e = .returned (.bool true) ∧ Below w.heap.size w w' := by
  have HFX := Lib.hid (fewO_true hfx)
  have hl25 := HFX.out.1
  have HR := Lib.hid hfx
  have HO := Lib.hid ho
  clear hfx ho
  obtain ⟨D1, p1, q1, g1, s1, _⟩ := open_quiet good_new quiet_new (f := 3) (by decide)
  have e1 : recs (new.now 3) = [] := rfl
  rw [e1] at p1 s1
  have P1 : Hid (jopen new 3 = (some [], 0, D1)) := Lib.hid p1
  have hs0 : Tel 0 D1 (some ⟨3, [], false⟩) := ⟨⟨[], [], Held.still g1 s1, by simp, by simp, fun b J e => by cases e; exact ⟨rfl, fun _ => ⟨q1.up, s1.now, rfl⟩⟩⟩, fun J e => by cases e; exact ⟨by simp, by simp⟩⟩
  have HS0 := Lib.hid hs0
  clear p1 q1 g1 s1 e1 hs0
  go_enter Tryz.func3, Tryz.ntmps3
  go_wp2_with (go_at_call 4; refine (small_any _ he).mono ?_; rintro e w1 ⟨rfl, b1⟩; refine Hid.out ?_)
  refine Lib.hid ?_
  have F1 := Lib.hid (few_at HO.out (by omega) cap b1 HR.out)
  have M0 := Lib.hid ((OMem.start w).fresh b1)
  clear b1
  go_wp2_with (first | (go_at_call 5; refine F1.out.mono ?_; rintro e w2 ⟨rfl, rfl⟩) | (go_at_call 6; refine (o_new M0.out).mono ?_; rintro e w2 ⟨d, rfl, m⟩; refine Hid.out ?_))
  refine Lib.hid ?_
  have M1 := Lib.hid (show OMem w w2 [.disk d new] from m)
  clear m M0 F1
  go_wp2_with (go_at_call 7; refine (or_new M1.out).mono ?_; rintro e w3 ⟨r, rfl, m⟩; refine Hid.out ?_)
  refine Lib.hid ?_
  have M2 := Lib.hid (show OMem w w3 [.disk d new, .rdisk r new] from m)
  clear m M1
  go_wp2_with (go_at_call 8; refine (o_open1 (i := 0) M2.out rfl 3 ⟨by decide, by decide⟩ he P1.out).mono ?_; rintro e w4 ⟨b, rfl, m⟩; refine Hid.out ?_)
  refine Lib.hid ?_
  have M3 := Lib.hid (show OMem w w4 [.disk d D1, .rdisk r new, .jour b d ⟨3, [], false⟩] from m)
  clear m M2
  go_wp2_with (go_at_call 9; refine (or_open1 (i := 1) M3.out rfl 3 ⟨by decide, by decide⟩ (by decide) P1.out).mono ?_; rintro e w5 ⟨c, rfl, m⟩; refine Hid.out ?_)
  refine Lib.hid ?_
  have M4 := Lib.hid (show OMem w w5 (tjobs d r D1 (some (b, c, ⟨3, [], false⟩))) from m)
  clear m M3 P1
  go_wp2
  go_loopw [6, 7, 8, 9, 10] (fun jv ev kv fv iv wr => ∃ (k : Nat) (jx : Option (Nat × Nat × Jn)) (D : Dk) (n : Int), k ≤ xs.length ∧ iv = .int .i64 (k : Int) ∧ ev = .int .i64 n ∧ fv = .int .i64 n ∧ Hid (TAt jx jv kv) ∧ Hid (Tel k D (jnOf jx)) ∧ Hid (OMem w wr (tjobs d r D jx))) (fun _ _ _ _ iv _ => xs.length - (intOf iv).toNat)
  case atStart => exact ⟨0, _, _, _, Nat.zero_le _, rfl, rfl, rfl, Lib.hid (.yes b c _), HS0, M4⟩
  case round =>
    clear HS0 M4
    obtain ⟨k, jx, D, n, hk, rfl, rfl, rfl, HJ, HS, HM⟩ := hrel
    by_cases hlt : k < xs.length
    · have hk1 : k + 1 ≤ xs.length := hlt
      obtain ⟨x, hx⟩ : ∃ x, xs[k]? = some x := ⟨_, List.getElem?_eq_getElem hlt⟩
      obtain ⟨bo, off, va, vc, rfl, hc, hn, hok⟩ := HO.out.get HM.out.below hx
      have hfx := HFX.out.2 x (List.mem_of_getElem? hx)
      obtain ⟨c0, c1, c2', c3'⟩ := hc
      have HN := Lib.hid hn
      have HOK := Lib.hid hok
      have HF1 := Lib.hid hfx
      clear hx hn hok hfx
      have HB4 := Lib.hid (below_alloc wr (.cells #[.int .i64 x.K, .string (bs x.S), .int .i64 x.N, .slice va x.Keep.length vc] 38))
      have hcn : OCells (wr.alloc (.cells #[.int .i64 x.K, .string (bs x.S), .int .i64 x.N, .slice va x.Keep.length vc] 38)) wr.heap.size 0 x (.slice va x.Keep.length vc) := ⟨by rw [alloc_new_cell]; rfl, by rw [alloc_new_cell]; rfl, by rw [alloc_new_cell]; rfl, by rw [alloc_new_cell]; rfl⟩
      have hp4 : wr.heap.size < (wr.alloc (.cells #[.int .i64 x.K, .string (bs x.S), .int .i64 x.N, .slice va x.Keep.length vc] 38)).heap.size := by simp
      go_upto_region 14 with fail
      clear c0 c1 c2' c3'
      generalize wr.alloc (.cells #[.int .i64 x.K, .string (bs x.S), .int .i64 x.N, .slice va x.Keep.length vc] 38) = w4 at HB4 hcn hp4 ⊢
      have d1 : w4.cell? ⟨wr.heap.size, 1, none⟩ = some (.string (bs x.S)) := hcn.c1
      have hsl : x.S.length ≤ 1099511627776 := by have := HF1.out.1; omega
      have HSQ := Lib.hid (sum_quiet x.S hsl)
      have HSR := Lib.hid (rsum_quiet x.S hsl)
      have HCN := Lib.hid hcn
      clear hcn hsl
      go_quiet (first | (go_at_call 10; refine Calls.quiet_of_same (HSQ.out _)) | (go_at_call 11; refine Calls.quiet_of_same (HSR.out _)))
      have hc5 : OCells (w4.drewN nq) wr.heap.size 0 x (.slice va x.Keep.length vc) := ⟨HCN.out.c0, HCN.out.c1, HCN.out.c2, HCN.out.c3⟩
      have HB5 := Lib.hid (below_drewN HB4.out nq)
      have hp5 : wr.heap.size < (w4.drewN nq).heap.size := hp4
      clear HB4 HCN hp4 d1 HSQ HSR
      generalize w4.drewN nq = w5 at hc5 HB5 hp5 ⊢
      have d0 : w5.cell? ⟨wr.heap.size, 0, none⟩ = some (.int .i64 x.K) := hc5.c0
      have d1 : w5.cell? ⟨wr.heap.size, 1, none⟩ = some (.string (bs x.S)) := hc5.c1
      have d2 : w5.cell? ⟨wr.heap.size, 2, none⟩ = some (.int .i64 x.N) := hc5.c2
      have d3 : w5.cell? ⟨wr.heap.size, 3, none⟩ = some (.slice va x.Keep.length vc) := hc5.c3
      have HN0 := Lib.hid (nums_back HN.out HM.out.below)
      go_upto_region 16 with fail
      by_cases k0 : x.K = 0
      · as_aux_lemma =>
          rw [k0] at d0
          have hj := HJ.out
          cases hj with
          | no =>
            have S := Lib.hid (HS.out.mono (show k ≤ k + 1 by omega))
            go_wp2
            go_roundw
            case rel => exact ⟨k + 1, none, D, n, hk1, by go_num, rfl, rfl, HJ, S, Lib.hid (HM.out.fresh HB5.out)⟩
            case measure => simp [intOf]; omega
          | yes b c J =>
            have M5 := Lib.hid (show OMem w w5 [.disk d D, .rdisk r D, .jour b d J, .rjour c r J, .op wr.heap.size x (.slice va x.Keep.length vc)] from HM.out.op_new HB5.out hc5 (Nat.le_refl _) hp5)
            have HSM := Lib.hid (Tel.small HS.out (show k ≤ 100 by omega))
            obtain ⟨m0, D', J', p, s⟩ := Tel.appended HS.out HF1.out.1
            have P := Lib.hid p
            have S := Lib.hid s
            clear p s HS HM
            go_wp2_with (go_at_call 12; refine (o_append1 (i := 0) (k := 2) M5.out rfl rfl (by decide) x.S (M5.out.env he) P.out).mono ?_; rintro e w6 ⟨rfl, m⟩; refine Hid.out ?_)
            refine Lib.hid ?_
            have M6 := Lib.hid (show OMem w w6 [.disk d D', .rdisk r D, .jour b d J', .rjour c r J, .op wr.heap.size x (.slice va x.Keep.length vc)] from m)
            have e1 : w6.cell? ⟨wr.heap.size, 1, none⟩ = some (.string (bs x.S)) := (m.op_at (i := 4) rfl).c1
            clear m M5 d1
            go_wp2_with (go_at_call 13; refine (or_append1 (i := 1) (k := 3) M6.out rfl rfl (by decide) x.S HSM.out P.out).mono ?_; rintro e w7 ⟨rfl, m⟩; refine Hid.out ?_)
            refine Lib.hid ?_
            have MD := Lib.hid ((show OMem w w7 [.disk d D', .rdisk r D', .jour b d J', .rjour c r J', .op wr.heap.size x (.slice va x.Keep.length vc)] from m).fresh (below_drew w7))
            clear m M6
            go_wp2
            have HT := Lib.hid (show Tel (k + 1) D' (some J') from S.out)
            obtain ⟨vk, hck⟩ := MD.out.rjour (k := 3) rfl
            have s0 := hck.c2
            have HCK := Lib.hid hck
            clear hck
            refine region_till 13 (fun w' => w'.cell? ⟨c, 2, none⟩ = some vk) (by kernel_rfl) ?_
            refine till_take 0 6 false (v := ?v0u1) (by kernel_rfl) (by kernel_rfl) (by kernel_rfl) (by kernel_rfl) (by kernel_rfl) (fun _ _ _ h => h) ?hw0u1 s0 ?hy0u1 ?rest0u1
            case hw0u1 => (simp only [List.getElem?_toArray, List.getElem?_cons_zero, Option.elim]; rfl)
            case hy0u1 => (simp only [List.getElem?_toArray, List.getElem?_cons_zero, Option.elim]; intro wx _; go_simp; with_reducible rfl)
            simp only [dstOf, List.getElem?_toArray, List.getElem?_cons_zero, Option.bind, Act.put, List.setIfInBounds_toArray, List.set_cons_zero, List.set_cons_succ]
            refine till_take 1 6 false (v := ?v1u1) (by kernel_rfl) (by kernel_rfl) (by kernel_rfl) (by kernel_rfl) (by kernel_rfl) (fun _ _ _ h => h) ?hw1u1 s0 ?hy1u1 ?rest1u1
            case hw1u1 => (simp only [List.getElem?_toArray, List.getElem?_cons_zero, List.getElem?_cons_succ, Option.elim]; rfl)
            case hy1u1 => (simp only [List.getElem?_toArray, List.getElem?_cons_zero, List.getElem?_cons_succ, Option.elim]; intro wx _; go_simp; with_reducible rfl)
            simp only [dstOf, List.getElem?_toArray, List.getElem?_cons_zero, List.getElem?_cons_succ, Option.bind, Act.put, List.setIfInBounds_toArray, List.set_cons_zero, List.set_cons_succ]
            refine till_take 2 6 false (v := ?v2u1) (by kernel_rfl) (by kernel_rfl) (by kernel_rfl) (by kernel_rfl) (by kernel_rfl) (fun _ _ _ h => h) ?hw2u1 s0 ?hy2u1 ?rest2u1
            case hw2u1 => (simp only [List.getElem?_toArray, List.getElem?_cons_zero, List.getElem?_cons_succ, Option.elim]; rfl)
            case hy2u1 => (simp only [List.getElem?_toArray, List.getElem?_cons_zero, List.getElem?_cons_succ, Option.elim]; intro wx _; go_simp; with_reducible rfl)
            simp only [dstOf, List.getElem?_toArray, List.getElem?_cons_zero, List.getElem?_cons_succ, Option.bind, Act.put, List.setIfInBounds_toArray, List.set_cons_zero, List.set_cons_succ]
            refine till_take 3 6 false (v := ?v3u1) (by kernel_rfl) (by kernel_rfl) (by kernel_rfl) (by kernel_rfl) (by kernel_rfl) (fun _ _ _ h => h) ?hw3u1 s0 ?hy3u1 ?rest3u1
            case hw3u1 => (simp only [List.getElem?_toArray, List.getElem?_cons_zero, List.getElem?_cons_succ, Option.elim]; rfl)
            case hy3u1 => (simp only [List.getElem?_toArray, List.getElem?_cons_zero, List.getElem?_cons_succ, Option.elim]; intro wx _; go_simp; with_reducible rfl)
            simp only [dstOf, List.getElem?_toArray, List.getElem?_cons_zero, List.getElem?_cons_succ, Option.bind, Act.put, List.setIfInBounds_toArray, List.set_cons_zero, List.set_cons_succ]
            refine till_take 4 6 false (v := ?v4u1) (by kernel_rfl) (by kernel_rfl) (by kernel_rfl) (by kernel_rfl) (by kernel_rfl) (fun _ _ _ h => h) ?hw4u1 s0 ?hy4u1 ?rest4u1
            case hw4u1 => (simp only [List.getElem?_toArray, List.getElem?_cons_zero, List.getElem?_cons_succ, Option.elim]; rfl)
            case hy4u1 => (simp only [List.getElem?_toArray, List.getElem?_cons_zero, List.getElem?_cons_succ, Option.elim]; intro wx _; go_simp; with_reducible rfl)
            simp only [dstOf, List.getElem?_toArray, List.getElem?_cons_zero, List.getElem?_cons_succ, Option.bind, Act.put, List.setIfInBounds_toArray, List.set_cons_zero, List.set_cons_succ]
            refine till_take 5 6 false (v := ?v5u1) (by kernel_rfl) (by kernel_rfl) (by kernel_rfl) (by kernel_rfl) (by kernel_rfl) (fun _ _ _ h => h) ?hw5u1 s0 ?hy5u1 ?rest5u1
            case hw5u1 => (simp only [List.getElem?_toArray, List.getElem?_cons_zero, List.getElem?_cons_succ, Option.elim]; rfl)
            case hy5u1 => (simp only [List.getElem?_toArray, List.getElem?_cons_zero, List.getElem?_cons_succ, Option.elim]; intro wx _; go_simp; with_reducible rfl)
            simp only [dstOf, List.getElem?_toArray, List.getElem?_cons_zero, List.getElem?_cons_succ, Option.bind, Act.put, List.setIfInBounds_toArray, List.set_cons_zero, List.set_cons_succ]
            refine till_take 6 6 false (v := ?v6u1) (by kernel_rfl) (by kernel_rfl) (by kernel_rfl) (by kernel_rfl) (by kernel_rfl) (fun _ _ _ h => h) ?hw6u1 s0 ?hy6u1 ?rest6u1
            case hw6u1 => (simp only [List.getElem?_toArray, List.getElem?_cons_zero, List.getElem?_cons_succ, Option.elim]; rfl)
            case hy6u1 => (simp only [List.getElem?_toArray, List.getElem?_cons_zero, List.getElem?_cons_succ, Option.elim]; intro wx _; go_simp; with_reducible rfl)
            simp only [dstOf, List.getElem?_toArray, List.getElem?_cons_zero, List.getElem?_cons_succ, Option.bind, Act.put, List.setIfInBounds_toArray, List.set_cons_zero, List.set_cons_succ]
            refine till_take 7 6 false (v := ?v7u1) (by kernel_rfl) (by kernel_rfl) (by kernel_rfl) (by kernel_rfl) (by kernel_rfl) (fun _ _ _ h => h) ?hw7u1 s0 ?hy7u1 ?rest7u1
            case hw7u1 => (simp only [List.getElem?_toArray, List.getElem?_cons_zero, List.getElem?_cons_succ, Option.elim]; rfl)
            case hy7u1 => (simp only [List.getElem?_toArray, List.getElem?_cons_zero, List.getElem?_cons_succ, Option.elim]; intro wx _; go_simp; with_reducible rfl)
            simp only [dstOf, List.getElem?_toArray, List.getElem?_cons_zero, List.getElem?_cons_succ, Option.bind, Act.put, List.setIfInBounds_toArray, List.set_cons_zero, List.set_cons_succ]
            refine till_take 9 6 false (v := ?v9u1) (by kernel_rfl) (by kernel_rfl) (by kernel_rfl) (by kernel_rfl) (by kernel_rfl) (fun _ _ _ h => h) ?hw9u1 s0 ?hy9u1 ?rest9u1
            case hw9u1 => (simp only [List.getElem?_toArray, List.getElem?_cons_zero, List.getElem?_cons_succ, Option.elim]; rfl)
            case hy9u1 => (simp only [List.getElem?_toArray, List.getElem?_cons_zero, List.getElem?_cons_succ, Option.elim]; intro wx _; go_simp; with_reducible rfl)
            simp only [dstOf, List.getElem?_toArray, List.getElem?_cons_zero, List.getElem?_cons_succ, Option.bind, Act.put, List.setIfInBounds_toArray, List.set_cons_zero, List.set_cons_succ]
            refine till_take 10 6 false (v := ?v10u1) (by kernel_rfl) (by kernel_rfl) (by kernel_rfl) (by kernel_rfl) (by kernel_rfl) (fun _ _ _ h => h) ?hw10u1 s0 ?hy10u1 ?rest10u1
            case hw10u1 => (simp only [List.getElem?_toArray, List.getElem?_cons_zero, List.getElem?_cons_succ, Option.elim]; rfl)
            case hy10u1 => (simp only [List.getElem?_toArray, List.getElem?_cons_zero, List.getElem?_cons_succ, Option.elim]; intro wx _; go_simp; with_reducible rfl)
            simp only [dstOf, List.getElem?_toArray, List.getElem?_cons_zero, List.getElem?_cons_succ, Option.bind, Act.put, List.setIfInBounds_toArray, List.set_cons_zero, List.set_cons_succ]
            refine till_take 11 6 false (v := ?v11u1) (by kernel_rfl) (by kernel_rfl) (by kernel_rfl) (by kernel_rfl) (by kernel_rfl) (fun _ _ _ h => h) ?hw11u1 s0 ?hy11u1 ?rest11u1
            case hw11u1 => (simp only [List.getElem?_toArray, List.getElem?_cons_zero, List.getElem?_cons_succ, Option.elim]; rfl)
            case hy11u1 => (simp only [List.getElem?_toArray, List.getElem?_cons_zero, List.getElem?_cons_succ, Option.elim]; intro wx _; go_simp; with_reducible rfl)
            simp only [dstOf, List.getElem?_toArray, List.getElem?_cons_zero, List.getElem?_cons_succ, Option.bind, Act.put, List.setIfInBounds_toArray, List.set_cons_zero, List.set_cons_succ]
            refine till_take 12 6 true (v := ?v12u1) (by kernel_rfl) (by kernel_rfl) (by kernel_rfl) (by kernel_rfl) (by kernel_rfl) (fun _ _ _ h => h) ?hw12u1 s0 ?hy12u1 ?rest12u1
            case hw12u1 => (simp only [List.getElem?_toArray, List.getElem?_cons_zero, List.getElem?_cons_succ, Option.elim]; rfl)
            case hy12u1 => (simp only [List.getElem?_toArray, List.getElem?_cons_zero, List.getElem?_cons_succ, Option.elim]; intro wx hx; have x1 := hx trivial; go_simp; with_reducible rfl)
            simp only [dstOf, List.getElem?_toArray, List.getElem?_cons_zero, List.getElem?_cons_succ, Option.bind, Act.put, List.setIfInBounds_toArray, List.set_cons_zero, List.set_cons_succ]
            refine till_before 8 (by kernel_rfl) (fun K hK => ?_)
            simp only [List.getElem?_toArray, List.getElem?_cons_zero, List.getElem?_cons_succ, Option.elim]
            rw [if_pos (by rfl)]
            go_simp
            go_at_call 25
            refine (o_all_raw (k := 2) MD.out rfl).mono ?_
            rintro e w11 ⟨v11, rfl, o11, n11, b11⟩
            have S11 := below_cell s0 b11
            have SAME := Lib.hid (same_one (l := J'.l) (Nat.le_trans (HT.out.jour _ rfl).2 (by omega)) (texts_own o11) (HCK.out.fresh b11).texts)
            have M11 := Lib.hid (MD.out.fresh b11)
            clear o11 n11 b11
            refine hK.out _ _ S11 ?_
            clear hK K
            try simp only [Act.put, List.setIfInBounds_toArray, List.set_cons_zero, List.set_cons_succ]
            refine till_step 13 (by kernel_rfl) (by kernel_rfl) (fun K hK => ?_)
            simp only [List.getElem?_toArray, List.getElem?_cons_zero, List.getElem?_cons_succ, Option.elim]
            rw [if_pos (by rfl)]
            go_simp
            go_at_call 24
            refine SAME.out.mono ?_
            rintro e w12 ⟨rfl, b12⟩
            have M12 := Lib.hid (M11.out.fresh b12)
            clear b12 SAME M11
            refine hK.out _ _ ?_
            clear hK K
            try simp only [Act.put, List.setIfInBounds_toArray, List.set_cons_zero, List.set_cons_succ]
            refine till_late 14 (v := ?v14u1) (by kernel_rfl) (by kernel_rfl) (by kernel_rfl) (by kernel_rfl) (fun _ _ _ h => h) (by kernel_rfl) ?hw14u1 ?hy14u1 ?rest14u1
            case hw14u1 => (simp only [List.getElem?_toArray, List.getElem?_cons_zero, List.getElem?_cons_succ, Option.elim]; rfl)
            case hy14u1 => (simp only [List.getElem?_toArray, List.getElem?_cons_zero, List.getElem?_cons_succ, Option.elim]; intro wx; go_simp; with_reducible rfl)
            simp only [dstOf, List.getElem?_toArray, List.getElem?_cons_zero, List.getElem?_cons_succ, Option.bind, Act.put, List.setIfInBounds_toArray, List.set_cons_zero, List.set_cons_succ]
            refine till_late 15 (v := ?v15u1) (by kernel_rfl) (by kernel_rfl) (by kernel_rfl) (by kernel_rfl) (fun _ _ _ h => h) (by kernel_rfl) ?hw15u1 ?hy15u1 ?rest15u1
            case hw15u1 => (simp only [List.getElem?_toArray, List.getElem?_cons_zero, List.getElem?_cons_succ, Option.elim]; rfl)
            case hy15u1 => (simp only [List.getElem?_toArray, List.getElem?_cons_zero, List.getElem?_cons_succ, Option.elim]; intro wx; go_simp; with_reducible rfl)
            simp only [dstOf, List.getElem?_toArray, List.getElem?_cons_zero, List.getElem?_cons_succ, Option.bind, Act.put, List.setIfInBounds_toArray, List.set_cons_zero, List.set_cons_succ]
            refine till_end (by kernel_rfl) ?_ _
            go_wp2
            go_roundw
            case rel => exact ⟨k + 1, some (b, c, J'), D', m0, hk1, by go_num, rfl, rfl, Lib.hid (.yes b c _), HT, Lib.hid (M12.out.take 4)⟩
            case measure => simp [intOf]; omega
      by_cases k1 : x.K = 1
      · as_aux_lemma =>
          rw [k1] at d0
          have hj := HJ.out
          cases hj with
          | no =>
            have S := Lib.hid (HS.out.mono (show k ≤ k + 1 by omega))
            go_wp2
            go_roundw
            case rel => exact ⟨k + 1, none, D, n, hk1, by go_num, rfl, rfl, HJ, S, Lib.hid (HM.out.fresh HB5.out)⟩
            case measure => simp [intOf]; omega
          | yes b c J =>
            have M5 := Lib.hid (show OMem w w5 [.disk d D, .rdisk r D, .jour b d J, .rjour c r J, .op wr.heap.size x (.slice va x.Keep.length vc)] from HM.out.op_new HB5.out hc5 (Nat.le_refl _) hp5)
            have HSM := Lib.hid (Tel.small HS.out (show k ≤ 100 by omega))
            obtain ⟨m0, D', J', p, s⟩ := Tel.jsynced HS.out
            have P := Lib.hid p
            have S := Lib.hid (s.mono (show k ≤ k + 1 by omega))
            clear p s HS HM
            go_wp2_with (go_at_call 14; refine (o_jsync1 (i := 0) (k := 2) M5.out rfl rfl (by decide) P.out).mono ?_; rintro e w6 ⟨rfl, m⟩; refine Hid.out ?_)
            refine Lib.hid ?_
            have M6 := Lib.hid (show OMem w w6 [.disk d D', .rdisk r D, .jour b d J', .rjour c r J, .op wr.heap.size x (.slice va x.Keep.length vc)] from m)
            clear m M5
            go_wp2_with (go_at_call 15; refine (or_jsync1 (i := 1) (k := 3) M6.out rfl rfl (by decide) P.out).mono ?_; rintro e w7 ⟨rfl, m⟩; refine Hid.out ?_)
            refine Lib.hid ?_
            have MD := Lib.hid ((show OMem w w7 [.disk d D', .rdisk r D', .jour b d J', .rjour c r J', .op wr.heap.size x (.slice va x.Keep.length vc)] from m).fresh (below_drew w7))
            clear m M6
            go_wp2
            have HT := Lib.hid (show Tel (k + 1) D' (some J') from S.out)
            obtain ⟨vk, hck⟩ := MD.out.rjour (k := 3) rfl
            have s0 := hck.c2
            have HCK := Lib.hid hck
            clear hck
            refine region_till 13 (fun w' => w'.cell? ⟨c, 2, none⟩ = some vk) (by kernel_rfl) ?_
            refine till_take 0 6 false (v := ?v0u2) (by kernel_rfl) (by kernel_rfl) (by kernel_rfl) (by kernel_rfl) (by kernel_rfl) (fun _ _ _ h => h) ?hw0u2 s0 ?hy0u2 ?rest0u2
            case hw0u2 => (simp only [List.getElem?_toArray, List.getElem?_cons_zero, Option.elim]; rfl)
            case hy0u2 => (simp only [List.getElem?_toArray, List.getElem?_cons_zero, Option.elim]; intro wx _; go_simp; with_reducible rfl)
            simp only [dstOf, List.getElem?_toArray, List.getElem?_cons_zero, Option.bind, Act.put, List.setIfInBounds_toArray, List.set_cons_zero, List.set_cons_succ]
            refine till_take 1 6 false (v := ?v1u2) (by kernel_rfl) (by kernel_rfl) (by kernel_rfl) (by kernel_rfl) (by kernel_rfl) (fun _ _ _ h => h) ?hw1u2 s0 ?hy1u2 ?rest1u2
            case hw1u2 => (simp only [List.getElem?_toArray, List.getElem?_cons_zero, List.getElem?_cons_succ, Option.elim]; rfl)
            case hy1u2 => (simp only [List.getElem?_toArray, List.getElem?_cons_zero, List.getElem?_cons_succ, Option.elim]; intro wx _; go_simp; with_reducible rfl)
            simp only [dstOf, List.getElem?_toArray, List.getElem?_cons_zero, List.getElem?_cons_succ, Option.bind, Act.put, List.setIfInBounds_toArray, List.set_cons_zero, List.set_cons_succ]
            refine till_take 2 6 false (v := ?v2u2) (by kernel_rfl) (by kernel_rfl) (by kernel_rfl) (by kernel_rfl) (by kernel_rfl) (fun _ _ _ h => h) ?hw2u2 s0 ?hy2u2 ?rest2u2
            case hw2u2 => (simp only [List.getElem?_toArray, List.getElem?_cons_zero, List.getElem?_cons_succ, Option.elim]; rfl)
            case hy2u2 => (simp only [List.getElem?_toArray, List.getElem?_cons_zero, List.getElem?_cons_succ, Option.elim]; intro wx _; go_simp; with_reducible rfl)
            simp only [dstOf, List.getElem?_toArray, List.getElem?_cons_zero, List.getElem?_cons_succ, Option.bind, Act.put, List.setIfInBounds_toArray, List.set_cons_zero, List.set_cons_succ]
            refine till_take 3 6 false (v := ?v3u2) (by kernel_rfl) (by kernel_rfl) (by kernel_rfl) (by kernel_rfl) (by kernel_rfl) (fun _ _ _ h => h) ?hw3u2 s0 ?hy3u2 ?rest3u2
            case hw3u2 => (simp only [List.getElem?_toArray, List.getElem?_cons_zero, List.getElem?_cons_succ, Option.elim]; rfl)
            case hy3u2 => (simp only [List.getElem?_toArray, List.getElem?_cons_zero, List.getElem?_cons_succ, Option.elim]; intro wx _; go_simp; with_reducible rfl)
            simp only [dstOf, List.getElem?_toArray, List.getElem?_cons_zero, List.getElem?_cons_succ, Option.bind, Act.put, List.setIfInBounds_toArray, List.set_cons_zero, List.set_cons_succ]
            refine till_take 4 6 false (v := ?v4u2) (by kernel_rfl) (by kernel_rfl) (by kernel_rfl) (by kernel_rfl) (by kernel_rfl) (fun _ _ _ h => h) ?hw4u2 s0 ?hy4u2 ?rest4u2
            case hw4u2 => (simp only [List.getElem?_toArray, List.getElem?_cons_zero, List.getElem?_cons_succ, Option.elim]; rfl)
            case hy4u2 => (simp only [List.getElem?_toArray, List.getElem?_cons_zero, List.getElem?_cons_succ, Option.elim]; intro wx _; go_simp; with_reducible rfl)
            simp only [dstOf, List.getElem?_toArray, List.getElem?_cons_zero, List.getElem?_cons_succ, Option.bind, Act.put, List.setIfInBounds_toArray, List.set_cons_zero, List.set_cons_succ]
            refine till_take 5 6 false (v := ?v5u2) (by kernel_rfl) (by kernel_rfl) (by kernel_rfl) (by kernel_rfl) (by kernel_rfl) (fun _ _ _ h => h) ?hw5u2 s0 ?hy5u2 ?rest5u2
            case hw5u2 => (simp only [List.getElem?_toArray, List.getElem?_cons_zero, List.getElem?_cons_succ, Option.elim]; rfl)
            case hy5u2 => (simp only [List.getElem?_toArray, List.getElem?_cons_zero, List.getElem?_cons_succ, Option.elim]; intro wx _; go_simp; with_reducible rfl)
            simp only [dstOf, List.getElem?_toArray, List.getElem?_cons_zero, List.getElem?_cons_succ, Option.bind, Act.put, List.setIfInBounds_toArray, List.set_cons_zero, List.set_cons_succ]
            refine till_take 6 6 false (v := ?v6u2) (by kernel_rfl) (by kernel_rfl) (by kernel_rfl) (by kernel_rfl) (by kernel_rfl) (fun _ _ _ h => h) ?hw6u2 s0 ?hy6u2 ?rest6u2
            case hw6u2 => (simp only [List.getElem?_toArray, List.getElem?_cons_zero, List.getElem?_cons_succ, Option.elim]; rfl)
            case hy6u2 => (simp only [List.getElem?_toArray, List.getElem?_cons_zero, List.getElem?_cons_succ, Option.elim]; intro wx _; go_simp; with_reducible rfl)
            simp only [dstOf, List.getElem?_toArray, List.getElem?_cons_zero, List.getElem?_cons_succ, Option.bind, Act.put, List.setIfInBounds_toArray, List.set_cons_zero, List.set_cons_succ]
            refine till_take 7 6 false (v := ?v7u2) (by kernel_rfl) (by kernel_rfl) (by kernel_rfl) (by kernel_rfl) (by kernel_rfl) (fun _ _ _ h => h) ?hw7u2 s0 ?hy7u2 ?rest7u2
            case hw7u2 => (simp only [List.getElem?_toArray, List.getElem?_cons_zero, List.getElem?_cons_succ, Option.elim]; rfl)
            case hy7u2 => (simp only [List.getElem?_toArray, List.getElem?_cons_zero, List.getElem?_cons_succ, Option.elim]; intro wx _; go_simp; with_reducible rfl)
            simp only [dstOf, List.getElem?_toArray, List.getElem?_cons_zero, List.getElem?_cons_succ, Option.bind, Act.put, List.setIfInBounds_toArray, List.set_cons_zero, List.set_cons_succ]
            refine till_take 9 6 false (v := ?v9u2) (by kernel_rfl) (by kernel_rfl) (by kernel_rfl) (by kernel_rfl) (by kernel_rfl) (fun _ _ _ h => h) ?hw9u2 s0 ?hy9u2 ?rest9u2
            case hw9u2 => (simp only [List.getElem?_toArray, List.getElem?_cons_zero, List.getElem?_cons_succ, Option.elim]; rfl)
            case hy9u2 => (simp only [List.getElem?_toArray, List.getElem?_cons_zero, List.getElem?_cons_succ, Option.elim]; intro wx _; go_simp; with_reducible rfl)
            simp only [dstOf, List.getElem?_toArray, List.getElem?_cons_zero, List.getElem?_cons_succ, Option.bind, Act.put, List.setIfInBounds_toArray, List.set_cons_zero, List.set_cons_succ]
            refine till_take 10 6 false (v := ?v10u2) (by kernel_rfl) (by kernel_rfl) (by kernel_rfl) (by kernel_rfl) (by kernel_rfl) (fun _ _ _ h => h) ?hw10u2 s0 ?hy10u2 ?rest10u2
            case hw10u2 => (simp only [List.getElem?_toArray, List.getElem?_cons_zero, List.getElem?_cons_succ, Option.elim]; rfl)
            case hy10u2 => (simp only [List.getElem?_toArray, List.getElem?_cons_zero, List.getElem?_cons_succ, Option.elim]; intro wx _; go_simp; with_reducible rfl)
            simp only [dstOf, List.getElem?_toArray, List.getElem?_cons_zero, List.getElem?_cons_succ, Option.bind, Act.put, List.setIfInBounds_toArray, List.set_cons_zero, List.set_cons_succ]
            refine till_take 11 6 false (v := ?v11u2) (by kernel_rfl) (by kernel_rfl) (by kernel_rfl) (by kernel_rfl) (by kernel_rfl) (fun _ _ _ h => h) ?hw11u2 s0 ?hy11u2 ?rest11u2
            case hw11u2 => (simp only [List.getElem?_toArray, List.getElem?_cons_zero, List.getElem?_cons_succ, Option.elim]; rfl)
            case hy11u2 => (simp only [List.getElem?_toArray, List.getElem?_cons_zero, List.getElem?_cons_succ, Option.elim]; intro wx _; go_simp; with_reducible rfl)
            simp only [dstOf, List.getElem?_toArray, List.getElem?_cons_zero, List.getElem?_cons_succ, Option.bind, Act.put, List.setIfInBounds_toArray, List.set_cons_zero, List.set_cons_succ]
            refine till_take 12 6 true (v := ?v12u2) (by kernel_rfl) (by kernel_rfl) (by kernel_rfl) (by kernel_rfl) (by kernel_rfl) (fun _ _ _ h => h) ?hw12u2 s0 ?hy12u2 ?rest12u2
            case hw12u2 => (simp only [List.getElem?_toArray, List.getElem?_cons_zero, List.getElem?_cons_succ, Option.elim]; rfl)
            case hy12u2 => (simp only [List.getElem?_toArray, List.getElem?_cons_zero, List.getElem?_cons_succ, Option.elim]; intro wx hx; have x1 := hx trivial; go_simp; with_reducible rfl)
            simp only [dstOf, List.getElem?_toArray, List.getElem?_cons_zero, List.getElem?_cons_succ, Option.bind, Act.put, List.setIfInBounds_toArray, List.set_cons_zero, List.set_cons_succ]
            refine till_before 8 (by kernel_rfl) (fun K hK => ?_)
            simp only [List.getElem?_toArray, List.getElem?_cons_zero, List.getElem?_cons_succ, Option.elim]
            rw [if_pos (by rfl)]
            go_simp
            go_at_call 25
            refine (o_all_raw (k := 2) MD.out rfl).mono ?_
            rintro e w11 ⟨v11, rfl, o11, n11, b11⟩
            have S11 := below_cell s0 b11
            have SAME := Lib.hid (same_one (l := J'.l) (Nat.le_trans (HT.out.jour _ rfl).2 (by omega)) (texts_own o11) (HCK.out.fresh b11).texts)
            have M11 := Lib.hid (MD.out.fresh b11)
            clear o11 n11 b11
            refine hK.out _ _ S11 ?_
            clear hK K
            try simp only [Act.put, List.setIfInBounds_toArray, List.set_cons_zero, List.set_cons_succ]
            refine till_step 13 (by kernel_rfl) (by kernel_rfl) (fun K hK => ?_)
            simp only [List.getElem?_toArray, List.getElem?_cons_zero, List.getElem?_cons_succ, Option.elim]
            rw [if_pos (by rfl)]
            go_simp
            go_at_call 24
            refine SAME.out.mono ?_
            rintro e w12 ⟨rfl, b12⟩
            have M12 := Lib.hid (M11.out.fresh b12)
            clear b12 SAME M11
            refine hK.out _ _ ?_
            clear hK K
            try simp only [Act.put, List.setIfInBounds_toArray, List.set_cons_zero, List.set_cons_succ]
            refine till_late 14 (v := ?v14u2) (by kernel_rfl) (by kernel_rfl) (by kernel_rfl) (by kernel_rfl) (fun _ _ _ h => h) (by kernel_rfl) ?hw14u2 ?hy14u2 ?rest14u2
            case hw14u2 => (simp only [List.getElem?_toArray, List.getElem?_cons_zero, List.getElem?_cons_succ, Option.elim]; rfl)
            case hy14u2 => (simp only [List.getElem?_toArray, List.getElem?_cons_zero, List.getElem?_cons_succ, Option.elim]; intro wx; go_simp; with_reducible rfl)
            simp only [dstOf, List.getElem?_toArray, List.getElem?_cons_zero, List.getElem?_cons_succ, Option.bind, Act.put, List.setIfInBounds_toArray, List.set_cons_zero, List.set_cons_succ]
            refine till_late 15 (v := ?v15u2) (by kernel_rfl) (by kernel_rfl) (by kernel_rfl) (by kernel_rfl) (fun _ _ _ h => h) (by kernel_rfl) ?hw15u2 ?hy15u2 ?rest15u2
            case hw15u2 => (simp only [List.getElem?_toArray, List.getElem?_cons_zero, List.getElem?_cons_succ, Option.elim]; rfl)
            case hy15u2 => (simp only [List.getElem?_toArray, List.getElem?_cons_zero, List.getElem?_cons_succ, Option.elim]; intro wx; go_simp; with_reducible rfl)
            simp only [dstOf, List.getElem?_toArray, List.getElem?_cons_zero, List.getElem?_cons_succ, Option.bind, Act.put, List.setIfInBounds_toArray, List.set_cons_zero, List.set_cons_succ]
            refine till_end (by kernel_rfl) ?_ _
            go_wp2
            go_roundw
            case rel => exact ⟨k + 1, some (b, c, J'), D', m0, hk1, by go_num, rfl, rfl, Lib.hid (.yes b c _), HT, Lib.hid (M12.out.take 4)⟩
            case measure => simp [intOf]; omega
      by_cases k2 : x.K = 2
      · as_aux_lemma =>
          rw [k2] at d0
          have hj := HJ.out
          have S := Lib.hid ((HS.out.lose x.N).mono (show k ≤ k + 1 by omega))
          cases hj with
          | no =>
            have M5 := Lib.hid (show OMem w w5 [.disk d D, .rdisk r D, .op wr.heap.size x (.slice va x.Keep.length vc)] from HM.out.op_new HB5.out hc5 (Nat.le_refl _) hp5)
            clear HM HS
            go_wp2_with (go_at_call 16; refine (o_lose (i := 0) M5.out rfl x.N HOK.out.N).mono ?_; rintro e w6 ⟨rfl, m⟩; refine Hid.out ?_)
            refine Lib.hid ?_
            have M6 := Lib.hid (show OMem w w6 [.disk d (D.lose x.N), .rdisk r D, .op wr.heap.size x (.slice va x.Keep.length vc)] from m)
            have e2 : w6.cell? ⟨wr.heap.size, 2, none⟩ = some (.int .i64 x.N) := (m.op_at (i := 2) rfl).c2
            clear m M5
            go_wp2_with (go_at_call 17; refine (or_lose (i := 1) M6.out rfl x.N HOK.out.N).mono ?_; rintro e w7 ⟨rfl, m⟩; refine Hid.out ?_)
            refine Lib.hid ?_
            have M7 := Lib.hid (show OMem w w7 [.disk d (D.lose x.N), .rdisk r (D.lose x.N), .op wr.heap.size x (.slice va x.Keep.length vc)] from m)
            clear m M6
            go_wp2
            go_quiet (fail)
            go_wp2
            go_roundw
            case rel => exact ⟨k + 1, none, (D.lose x.N), n, hk1, by go_num, rfl, rfl, Lib.hid .no, S, Lib.hid ((M7.out.take 2).fresh (below_drewN (Below.refl _ _) nq))⟩
            case measure => simp [intOf]; omega
          | yes b c J =>
            have M5 := Lib.hid (show OMem w w5 [.disk d D, .rdisk r D, .jour b d J, .rjour c r J, .op wr.heap.size x (.slice va x.Keep.length vc)] from HM.out.op_new HB5.out hc5 (Nat.le_refl _) hp5)
            clear HM HS
            go_wp2_with (go_at_call 16; refine (o_lose (i := 0) M5.out rfl x.N HOK.out.N).mono ?_; rintro e w6 ⟨rfl, m⟩; refine Hid.out ?_)
            refine Lib.hid ?_
            have M6 := Lib.hid (show OMem w w6 [.disk d (D.lose x.N), .rdisk r D, .jour b d J, .rjour c r J, .op wr.heap.size x (.slice va x.Keep.length vc)] from m)
            have e2 : w6.cell? ⟨wr.heap.size, 2, none⟩ = some (.int .i64 x.N) := (m.op_at (i := 4) rfl).c2
            clear m M5
            go_wp2_with (go_at_call 17; refine (or_lose (i := 1) M6.out rfl x.N HOK.out.N).mono ?_; rintro e w7 ⟨rfl, m⟩; refine Hid.out ?_)
            refine Lib.hid ?_
            have MD := Lib.hid ((show OMem w w7 [.disk d (D.lose x.N), .rdisk r (D.lose x.N), .jour b d J, .rjour c r J, .op wr.heap.size x (.slice va x.Keep.length vc)] from m).fresh (below_drew w7))
            clear m M6
            go_wp2
            have HT := Lib.hid (show Tel (k + 1) (D.lose x.N) (some J) from S.out)
            obtain ⟨vk, hck⟩ := MD.out.rjour (k := 3) rfl
            have s0 := hck.c2
            have HCK := Lib.hid hck
            clear hck
            refine region_till 13 (fun w' => w'.cell? ⟨c, 2, none⟩ = some vk) (by kernel_rfl) ?_
            refine till_take 0 6 false (v := ?v0u3) (by kernel_rfl) (by kernel_rfl) (by kernel_rfl) (by kernel_rfl) (by kernel_rfl) (fun _ _ _ h => h) ?hw0u3 s0 ?hy0u3 ?rest0u3
            case hw0u3 => (simp only [List.getElem?_toArray, List.getElem?_cons_zero, Option.elim]; rfl)
            case hy0u3 => (simp only [List.getElem?_toArray, List.getElem?_cons_zero, Option.elim]; intro wx _; go_simp; with_reducible rfl)
            simp only [dstOf, List.getElem?_toArray, List.getElem?_cons_zero, Option.bind, Act.put, List.setIfInBounds_toArray, List.set_cons_zero, List.set_cons_succ]
            refine till_take 1 6 false (v := ?v1u3) (by kernel_rfl) (by kernel_rfl) (by kernel_rfl) (by kernel_rfl) (by kernel_rfl) (fun _ _ _ h => h) ?hw1u3 s0 ?hy1u3 ?rest1u3
            case hw1u3 => (simp only [List.getElem?_toArray, List.getElem?_cons_zero, List.getElem?_cons_succ, Option.elim]; rfl)
            case hy1u3 => (simp only [List.getElem?_toArray, List.getElem?_cons_zero, List.getElem?_cons_succ, Option.elim]; intro wx _; go_simp; with_reducible rfl)
            simp only [dstOf, List.getElem?_toArray, List.getElem?_cons_zero, List.getElem?_cons_succ, Option.bind, Act.put, List.setIfInBounds_toArray, List.set_cons_zero, List.set_cons_succ]
            refine till_take 2 6 false (v := ?v2u3) (by kernel_rfl) (by kernel_rfl) (by kernel_rfl) (by kernel_rfl) (by kernel_rfl) (fun _ _ _ h => h) ?hw2u3 s0 ?hy2u3 ?rest2u3
            case hw2u3 => (simp only [List.getElem?_toArray, List.getElem?_cons_zero, List.getElem?_cons_succ, Option.elim]; rfl)
            case hy2u3 => (simp only [List.getElem?_toArray, List.getElem?_cons_zero, List.getElem?_cons_succ, Option.elim]; intro wx _; go_simp; with_reducible rfl)
            simp only [dstOf, List.getElem?_toArray, List.getElem?_cons_zero, List.getElem?_cons_succ, Option.bind, Act.put, List.setIfInBounds_toArray, List.set_cons_zero, List.set_cons_succ]
            refine till_take 3 6 false (v := ?v3u3) (by kernel_rfl) (by kernel_rfl) (by kernel_rfl) (by kernel_rfl) (by kernel_rfl) (fun _ _ _ h => h) ?hw3u3 s0 ?hy3u3 ?rest3u3
            case hw3u3 => (simp only [List.getElem?_toArray, List.getElem?_cons_zero, List.getElem?_cons_succ, Option.elim]; rfl)
            case hy3u3 => (simp only [List.getElem?_toArray, List.getElem?_cons_zero, List.getElem?_cons_succ, Option.elim]; intro wx _; go_simp; with_reducible rfl)
            simp only [dstOf, List.getElem?_toArray, List.getElem?_cons_zero, List.getElem?_cons_succ, Option.bind, Act.put, List.setIfInBounds_toArray, List.set_cons_zero, List.set_cons_succ]
            refine till_take 4 6 false (v := ?v4u3) (by kernel_rfl) (by kernel_rfl) (by kernel_rfl) (by kernel_rfl) (by kernel_rfl) (fun _ _ _ h => h) ?hw4u3 s0 ?hy4u3 ?rest4u3
            case hw4u3 => (simp only [List.getElem?_toArray, List.getElem?_cons_zero, List.getElem?_cons_succ, Option.elim]; rfl)
            case hy4u3 => (simp only [List.getElem?_toArray, List.getElem?_cons_zero, List.getElem?_cons_succ, Option.elim]; intro wx _; go_simp; with_reducible rfl)
            simp only [dstOf, List.getElem?_toArray, List.getElem?_cons_zero, List.getElem?_cons_succ, Option.bind, Act.put, List.setIfInBounds_toArray, List.set_cons_zero, List.set_cons_succ]
            refine till_take 5 6 false (v := ?v5u3) (by kernel_rfl) (by kernel_rfl) (by kernel_rfl) (by kernel_rfl) (by kernel_rfl) (fun _ _ _ h => h) ?hw5u3 s0 ?hy5u3 ?rest5u3
            case hw5u3 => (simp only [List.getElem?_toArray, List.getElem?_cons_zero, List.getElem?_cons_succ, Option.elim]; rfl)
            case hy5u3 => (simp only [List.getElem?_toArray, List.getElem?_cons_zero, List.getElem?_cons_succ, Option.elim]; intro wx _; go_simp; with_reducible rfl)
            simp only [dstOf, List.getElem?_toArray, List.getElem?_cons_zero, List.getElem?_cons_succ, Option.bind, Act.put, List.setIfInBounds_toArray, List.set_cons_zero, List.set_cons_succ]
            refine till_take 6 6 false (v := ?v6u3) (by kernel_rfl) (by kernel_rfl) (by kernel_rfl) (by kernel_rfl) (by kernel_rfl) (fun _ _ _ h => h) ?hw6u3 s0 ?hy6u3 ?rest6u3
            case hw6u3 => (simp only [List.getElem?_toArray, List.getElem?_cons_zero, List.getElem?_cons_succ, Option.elim]; rfl)
            case hy6u3 => (simp only [List.getElem?_toArray, List.getElem?_cons_zero, List.getElem?_cons_succ, Option.elim]; intro wx _; go_simp; with_reducible rfl)
            simp only [dstOf, List.getElem?_toArray, List.getElem?_cons_zero, List.getElem?_cons_succ, Option.bind, Act.put, List.setIfInBounds_toArray, List.set_cons_zero, List.set_cons_succ]
            refine till_take 7 6 false (v := ?v7u3) (by kernel_rfl) (by kernel_rfl) (by kernel_rfl) (by kernel_rfl) (by kernel_rfl) (fun _ _ _ h => h) ?hw7u3 s0 ?hy7u3 ?rest7u3
            case hw7u3 => (simp only [List.getElem?_toArray, List.getElem?_cons_zero, List.getElem?_cons_succ, Option.elim]; rfl)
            case hy7u3 => (simp only [List.getElem?_toArray, List.getElem?_cons_zero, List.getElem?_cons_succ, Option.elim]; intro wx _; go_simp; with_reducible rfl)
            simp only [dstOf, List.getElem?_toArray, List.getElem?_cons_zero, List.getElem?_cons_succ, Option.bind, Act.put, List.setIfInBounds_toArray, List.set_cons_zero, List.set_cons_succ]
            refine till_take 9 6 false (v := ?v9u3) (by kernel_rfl) (by kernel_rfl) (by kernel_rfl) (by kernel_rfl) (by kernel_rfl) (fun _ _ _ h => h) ?hw9u3 s0 ?hy9u3 ?rest9u3
            case hw9u3 => (simp only [List.getElem?_toArray, List.getElem?_cons_zero, List.getElem?_cons_succ, Option.elim]; rfl)
            case hy9u3 => (simp only [List.getElem?_toArray, List.getElem?_cons_zero, List.getElem?_cons_succ, Option.elim]; intro wx _; go_simp; with_reducible rfl)
            simp only [dstOf, List.getElem?_toArray, List.getElem?_cons_zero, List.getElem?_cons_succ, Option.bind, Act.put, List.setIfInBounds_toArray, List.set_cons_zero, List.set_cons_succ]
            refine till_take 10 6 false (v := ?v10u3) (by kernel_rfl) (by kernel_rfl) (by kernel_rfl) (by kernel_rfl) (by kernel_rfl) (fun _ _ _ h => h) ?hw10u3 s0 ?hy10u3 ?rest10u3
            case hw10u3 => (simp only [List.getElem?_toArray, List.getElem?_cons_zero, List.getElem?_cons_succ, Option.elim]; rfl)
            case hy10u3 => (simp only [List.getElem?_toArray, List.getElem?_cons_zero, List.getElem?_cons_succ, Option.elim]; intro wx _; go_simp; with_reducible rfl)
            simp only [dstOf, List.getElem?_toArray, List.getElem?_cons_zero, List.getElem?_cons_succ, Option.bind, Act.put, List.setIfInBounds_toArray, List.set_cons_zero, List.set_cons_succ]
            refine till_take 11 6 false (v := ?v11u3) (by kernel_rfl) (by kernel_rfl) (by kernel_rfl) (by kernel_rfl) (by kernel_rfl) (fun _ _ _ h => h) ?hw11u3 s0 ?hy11u3 ?rest11u3
            case hw11u3 => (simp only [List.getElem?_toArray, List.getElem?_cons_zero, List.getElem?_cons_succ, Option.elim]; rfl)
            case hy11u3 => (simp only [List.getElem?_toArray, List.getElem?_cons_zero, List.getElem?_cons_succ, Option.elim]; intro wx _; go_simp; with_reducible rfl)
            simp only [dstOf, List.getElem?_toArray, List.getElem?_cons_zero, List.getElem?_cons_succ, Option.bind, Act.put, List.setIfInBounds_toArray, List.set_cons_zero, List.set_cons_succ]
            refine till_take 12 6 true (v := ?v12u3) (by kernel_rfl) (by kernel_rfl) (by kernel_rfl) (by kernel_rfl) (by kernel_rfl) (fun _ _ _ h => h) ?hw12u3 s0 ?hy12u3 ?rest12u3
            case hw12u3 => (simp only [List.getElem?_toArray, List.getElem?_cons_zero, List.getElem?_cons_succ, Option.elim]; rfl)
            case hy12u3 => (simp only [List.getElem?_toArray, List.getElem?_cons_zero, List.getElem?_cons_succ, Option.elim]; intro wx hx; have x1 := hx trivial; go_simp; with_reducible rfl)
            simp only [dstOf, List.getElem?_toArray, List.getElem?_cons_zero, List.getElem?_cons_succ, Option.bind, Act.put, List.setIfInBounds_toArray, List.set_cons_zero, List.set_cons_succ]
            refine till_before 8 (by kernel_rfl) (fun K hK => ?_)
            simp only [List.getElem?_toArray, List.getElem?_cons_zero, List.getElem?_cons_succ, Option.elim]
            rw [if_pos (by rfl)]
            go_simp
            go_at_call 25
            refine (o_all_raw (k := 2) MD.out rfl).mono ?_
            rintro e w11 ⟨v11, rfl, o11, n11, b11⟩
            have S11 := below_cell s0 b11
            have SAME := Lib.hid (same_one (l := J.l) (Nat.le_trans (HT.out.jour _ rfl).2 (by omega)) (texts_own o11) (HCK.out.fresh b11).texts)
            have M11 := Lib.hid (MD.out.fresh b11)
            clear o11 n11 b11
            refine hK.out _ _ S11 ?_
            clear hK K
            try simp only [Act.put, List.setIfInBounds_toArray, List.set_cons_zero, List.set_cons_succ]
            refine till_step 13 (by kernel_rfl) (by kernel_rfl) (fun K hK => ?_)
            simp only [List.getElem?_toArray, List.getElem?_cons_zero, List.getElem?_cons_succ, Option.elim]
            rw [if_pos (by rfl)]
            go_simp
            go_at_call 24
            refine SAME.out.mono ?_
            rintro e w12 ⟨rfl, b12⟩
            have M12 := Lib.hid (M11.out.fresh b12)
            clear b12 SAME M11
            refine hK.out _ _ ?_
            clear hK K
            try simp only [Act.put, List.setIfInBounds_toArray, List.set_cons_zero, List.set_cons_succ]
            refine till_late 14 (v := ?v14u3) (by kernel_rfl) (by kernel_rfl) (by kernel_rfl) (by kernel_rfl) (fun _ _ _ h => h) (by kernel_rfl) ?hw14u3 ?hy14u3 ?rest14u3
            case hw14u3 => (simp only [List.getElem?_toArray, List.getElem?_cons_zero, List.getElem?_cons_succ, Option.elim]; rfl)
            case hy14u3 => (simp only [List.getElem?_toArray, List.getElem?_cons_zero, List.getElem?_cons_succ, Option.elim]; intro wx; go_simp; with_reducible rfl)
            simp only [dstOf, List.getElem?_toArray, List.getElem?_cons_zero, List.getElem?_cons_succ, Option.bind, Act.put, List.setIfInBounds_toArray, List.set_cons_zero, List.set_cons_succ]
            refine till_late 15 (v := ?v15u3) (by kernel_rfl) (by kernel_rfl) (by kernel_rfl) (by kernel_rfl) (fun _ _ _ h => h) (by kernel_rfl) ?hw15u3 ?hy15u3 ?rest15u3
            case hw15u3 => (simp only [List.getElem?_toArray, List.getElem?_cons_zero, List.getElem?_cons_succ, Option.elim]; rfl)
            case hy15u3 => (simp only [List.getElem?_toArray, List.getElem?_cons_zero, List.getElem?_cons_succ, Option.elim]; intro wx; go_simp; with_reducible rfl)
            simp only [dstOf, List.getElem?_toArray, List.getElem?_cons_zero, List.getElem?_cons_succ, Option.bind, Act.put, List.setIfInBounds_toArray, List.set_cons_zero, List.set_cons_succ]
            refine till_end (by kernel_rfl) ?_ _
            go_wp2
            go_roundw
            case rel => exact ⟨k + 1, some (b, c, J), (D.lose x.N), n, hk1, by go_num, rfl, rfl, Lib.hid (.yes b c _), HT, Lib.hid (M12.out.take 4)⟩
            case measure => simp [intOf]; omega
      by_cases k3 : x.K = 3
      · as_aux_lemma =>
          rw [k3] at d0
          have hj := HJ.out
          have S := Lib.hid ((HS.out.arm x.N x.Keep).mono (show k ≤ k + 1 by omega))
          cases hj with
          | no =>
            have M5 := Lib.hid (show OMem w w5 [.disk d D, .rdisk r D, .op wr.heap.size x (.slice va x.Keep.length vc)] from HM.out.op_new HB5.out hc5 (Nat.le_refl _) hp5)
            clear HM HS
            go_wp2_with (go_at_call 18; refine (o_arm (i := 0) M5.out rfl x.N HOK.out.N _ x.Keep (HN0.out.to M5.out.below) (by have := HF1.out.2; omega)).mono ?_; rintro e w6 ⟨rfl, m⟩; refine Hid.out ?_)
            refine Lib.hid ?_
            have M6 := Lib.hid (show OMem w w6 [.disk d (D.arm x.N x.Keep), .rdisk r D, .op wr.heap.size x (.slice va x.Keep.length vc)] from m)
            have e2 : w6.cell? ⟨wr.heap.size, 2, none⟩ = some (.int .i64 x.N) := (m.op_at (i := 2) rfl).c2
            have e3 : w6.cell? ⟨wr.heap.size, 3, none⟩ = some (.slice va x.Keep.length vc) := (m.op_at (i := 2) rfl).c3
            clear m M5
            go_wp2_with (go_at_call 19; refine (or_arm (i := 1) M6.out rfl x.N HOK.out.N _ x.Keep (HN0.out.to M6.out.below) (by have := HF1.out.2; omega)).mono ?_; rintro e w7 ⟨rfl, m⟩; refine Hid.out ?_)
            refine Lib.hid ?_
            have M7 := Lib.hid (show OMem w w7 [.disk d (D.arm x.N x.Keep), .rdisk r (D.arm x.N x.Keep), .op wr.heap.size x (.slice va x.Keep.length vc)] from m)
            clear m M6
            go_wp2
            go_quiet (fail)
            go_wp2
            go_roundw
            case rel => exact ⟨k + 1, none, (D.arm x.N x.Keep), n, hk1, by go_num, rfl, rfl, Lib.hid .no, S, Lib.hid ((M7.out.take 2).fresh (below_drewN (Below.refl _ _) nq))⟩
            case measure => simp [intOf]; omega
          | yes b c J =>
            have M5 := Lib.hid (show OMem w w5 [.disk d D, .rdisk r D, .jour b d J, .rjour c r J, .op wr.heap.size x (.slice va x.Keep.length vc)] from HM.out.op_new HB5.out hc5 (Nat.le_refl _) hp5)
            clear HM HS
            go_wp2_with (go_at_call 18; refine (o_arm (i := 0) M5.out rfl x.N HOK.out.N _ x.Keep (HN0.out.to M5.out.below) (by have := HF1.out.2; omega)).mono ?_; rintro e w6 ⟨rfl, m⟩; refine Hid.out ?_)
            refine Lib.hid ?_
            have M6 := Lib.hid (show OMem w w6 [.disk d (D.arm x.N x.Keep), .rdisk r D, .jour b d J, .rjour c r J, .op wr.heap.size x (.slice va x.Keep.length vc)] from m)
            have e2 : w6.cell? ⟨wr.heap.size, 2, none⟩ = some (.int .i64 x.N) := (m.op_at (i := 4) rfl).c2
            have e3 : w6.cell? ⟨wr.heap.size, 3, none⟩ = some (.slice va x.Keep.length vc) := (m.op_at (i := 4) rfl).c3
            clear m M5
            go_wp2_with (go_at_call 19; refine (or_arm (i := 1) M6.out rfl x.N HOK.out.N _ x.Keep (HN0.out.to M6.out.below) (by have := HF1.out.2; omega)).mono ?_; rintro e w7 ⟨rfl, m⟩; refine Hid.out ?_)
            refine Lib.hid ?_
            have MD := Lib.hid ((show OMem w w7 [.disk d (D.arm x.N x.Keep), .rdisk r (D.arm x.N x.Keep), .jour b d J, .rjour c r J, .op wr.heap.size x (.slice va x.Keep.length vc)] from m).fresh (below_drew w7))
            clear m M6
            go_wp2
            have HT := Lib.hid (show Tel (k + 1) (D.arm x.N x.Keep) (some J) from S.out)
            obtain ⟨vk, hck⟩ := MD.out.rjour (k := 3) rfl
            have s0 := hck.c2
            have HCK := Lib.hid hck
            clear hck
            refine region_till 13 (fun w' => w'.cell? ⟨c, 2, none⟩ = some vk) (by kernel_rfl) ?_
            refine till_take 0 6 false (v := ?v0u4) (by kernel_rfl) (by kernel_rfl) (by kernel_rfl) (by kernel_rfl) (by kernel_rfl) (fun _ _ _ h => h) ?hw0u4 s0 ?hy0u4 ?rest0u4
            case hw0u4 => (simp only [List.getElem?_toArray, List.getElem?_cons_zero, Option.elim]; rfl)
            case hy0u4 => (simp only [List.getElem?_toArray, List.getElem?_cons_zero, Option.elim]; intro wx _; go_simp; with_reducible rfl)
            simp only [dstOf, List.getElem?_toArray, List.getElem?_cons_zero, Option.bind, Act.put, List.setIfInBounds_toArray, List.set_cons_zero, List.set_cons_succ]
            refine till_take 1 6 false (v := ?v1u4) (by kernel_rfl) (by kernel_rfl) (by kernel_rfl) (by kernel_rfl) (by kernel_rfl) (fun _ _ _ h => h) ?hw1u4 s0 ?hy1u4 ?rest1u4
            case hw1u4 => (simp only [List.getElem?_toArray, List.getElem?_cons_zero, List.getElem?_cons_succ, Option.elim]; rfl)
            case hy1u4 => (simp only [List.getElem?_toArray, List.getElem?_cons_zero, List.getElem?_cons_succ, Option.elim]; intro wx _; go_simp; with_reducible rfl)
            simp only [dstOf, List.getElem?_toArray, List.getElem?_cons_zero, List.getElem?_cons_succ, Option.bind, Act.put, List.setIfInBounds_toArray, List.set_cons_zero, List.set_cons_succ]
            refine till_take 2 6 false (v := ?v2u4) (by kernel_rfl) (by kernel_rfl) (by kernel_rfl) (by kernel_rfl) (by kernel_rfl) (fun _ _ _ h => h) ?hw2u4 s0 ?hy2u4 ?rest2u4
            case hw2u4 => (simp only [List.getElem?_toArray, List.getElem?_cons_zero, List.getElem?_cons_succ, Option.elim]; rfl)
            case hy2u4 => (simp only [List.getElem?_toArray, List.getElem?_cons_zero, List.getElem?_cons_succ, Option.elim]; intro wx _; go_simp; with_reducible rfl)
            simp only [dstOf, List.getElem?_toArray, List.getElem?_cons_zero, List.getElem?_cons_succ, Option.bind, Act.put, List.setIfInBounds_toArray, List.set_cons_zero, List.set_cons_succ]
            refine till_take 3 6 false (v := ?v3u4) (by kernel_rfl) (by kernel_rfl) (by kernel_rfl) (by kernel_rfl) (by kernel_rfl) (fun _ _ _ h => h) ?hw3u4 s0 ?hy3u4 ?rest3u4
            case hw3u4 => (simp only [List.getElem?_toArray, List.getElem?_cons_zero, List.getElem?_cons_succ, Option.elim]; rfl)
            case hy3u4 => (simp only [List.getElem?_toArray, List.getElem?_cons_zero, List.getElem?_cons_succ, Option.elim]; intro wx _; go_simp; with_reducible rfl)
            simp only [dstOf, List.getElem?_toArray, List.getElem?_cons_zero, List.getElem?_cons_succ, Option.bind, Act.put, List.setIfInBounds_toArray, List.set_cons_zero, List.set_cons_succ]
            refine till_take 4 6 false (v := ?v4u4) (by kernel_rfl) (by kernel_rfl) (by kernel_rfl) (by kernel_rfl) (by kernel_rfl) (fun _ _ _ h => h) ?hw4u4 s0 ?hy4u4 ?rest4u4
            case hw4u4 => (simp only [List.getElem?_toArray, List.getElem?_cons_zero, List.getElem?_cons_succ, Option.elim]; rfl)
            case hy4u4 => (simp only [List.getElem?_toArray, List.getElem?_cons_zero, List.getElem?_cons_succ, Option.elim]; intro wx _; go_simp; with_reducible rfl)
            simp only [dstOf, List.getElem?_toArray, List.getElem?_cons_zero, List.getElem?_cons_succ, Option.bind, Act.put, List.setIfInBounds_toArray, List.set_cons_zero, List.set_cons_succ]
            refine till_take 5 6 false (v := ?v5u4) (by kernel_rfl) (by kernel_rfl) (by kernel_rfl) (by kernel_rfl) (by kernel_rfl) (fun _ _ _ h => h) ?hw5u4 s0 ?hy5u4 ?rest5u4
            case hw5u4 => (simp only [List.getElem?_toArray, List.getElem?_cons_zero, List.getElem?_cons_succ, Option.elim]; rfl)
            case hy5u4 => (simp only [List.getElem?_toArray, List.getElem?_cons_zero, List.getElem?_cons_succ, Option.elim]; intro wx _; go_simp; with_reducible rfl)
            simp only [dstOf, List.getElem?_toArray, List.getElem?_cons_zero, List.getElem?_cons_succ, Option.bind, Act.put, List.setIfInBounds_toArray, List.set_cons_zero, List.set_cons_succ]
            refine till_take 6 6 false (v := ?v6u4) (by kernel_rfl) (by kernel_rfl) (by kernel_rfl) (by kernel_rfl) (by kernel_rfl) (fun _ _ _ h => h) ?hw6u4 s0 ?hy6u4 ?rest6u4
            case hw6u4 => (simp only [List.getElem?_toArray, List.getElem?_cons_zero, List.getElem?_cons_succ, Option.elim]; rfl)
            case hy6u4 => (simp only [List.getElem?_toArray, List.getElem?_cons_zero, List.getElem?_cons_succ, Option.elim]; intro wx _; go_simp; with_reducible rfl)
            simp only [dstOf, List.getElem?_toArray, List.getElem?_cons_zero, List.getElem?_cons_succ, Option.bind, Act.put, List.setIfInBounds_toArray, List.set_cons_zero, List.set_cons_succ]
            refine till_take 7 6 false (v := ?v7u4) (by kernel_rfl) (by kernel_rfl) (by kernel_rfl) (by kernel_rfl) (by kernel_rfl) (fun _ _ _ h => h) ?hw7u4 s0 ?hy7u4 ?rest7u4
            case hw7u4 => (simp only [List.getElem?_toArray, List.getElem?_cons_zero, List.getElem?_cons_succ, Option.elim]; rfl)
            case hy7u4 => (simp only [List.getElem?_toArray, List.getElem?_cons_zero, List.getElem?_cons_succ, Option.elim]; intro wx _; go_simp; with_reducible rfl)
            simp only [dstOf, List.getElem?_toArray, List.getElem?_cons_zero, List.getElem?_cons_succ, Option.bind, Act.put, List.setIfInBounds_toArray, List.set_cons_zero, List.set_cons_succ]
            refine till_take 9 6 false (v := ?v9u4) (by kernel_rfl) (by kernel_rfl) (by kernel_rfl) (by kernel_rfl) (by kernel_rfl) (fun _ _ _ h => h) ?hw9u4 s0 ?hy9u4 ?rest9u4
            case hw9u4 => (simp only [List.getElem?_toArray, List.getElem?_cons_zero, List.getElem?_cons_succ, Option.elim]; rfl)
            case hy9u4 => (simp only [List.getElem?_toArray, List.getElem?_cons_zero, List.getElem?_cons_succ, Option.elim]; intro wx _; go_simp; with_reducible rfl)
            simp only [dstOf, List.getElem?_toArray, List.getElem?_cons_zero, List.getElem?_cons_succ, Option.bind, Act.put, List.setIfInBounds_toArray, List.set_cons_zero, List.set_cons_succ]
            refine till_take 10 6 false (v := ?v10u4) (by kernel_rfl) (by kernel_rfl) (by kernel_rfl) (by kernel_rfl) (by kernel_rfl) (fun _ _ _ h => h) ?hw10u4 s0 ?hy10u4 ?rest10u4
            case hw10u4 => (simp only [List.getElem?_toArray, List.getElem?_cons_zero, List.getElem?_cons_succ, Option.elim]; rfl)
            case hy10u4 => (simp only [List.getElem?_toArray, List.getElem?_cons_zero, List.getElem?_cons_succ, Option.elim]; intro wx _; go_simp; with_reducible rfl)
            simp only [dstOf, List.getElem?_toArray, List.getElem?_cons_zero, List.getElem?_cons_succ, Option.bind, Act.put, List.setIfInBounds_toArray, List.set_cons_zero, List.set_cons_succ]
            refine till_take 11 6 false (v := ?v11u4) (by kernel_rfl) (by kernel_rfl) (by kernel_rfl) (by kernel_rfl) (by kernel_rfl) (fun _ _ _ h => h) ?hw11u4 s0 ?hy11u4 ?rest11u4
            case hw11u4 => (simp only [List.getElem?_toArray, List.getElem?_cons_zero, List.getElem?_cons_succ, Option.elim]; rfl)
            case hy11u4 => (simp only [List.getElem?_toArray, List.getElem?_cons_zero, List.getElem?_cons_succ, Option.elim]; intro wx _; go_simp; with_reducible rfl)
            simp only [dstOf, List.getElem?_toArray, List.getElem?_cons_zero, List.getElem?_cons_succ, Option.bind, Act.put, List.setIfInBounds_toArray, List.set_cons_zero, List.set_cons_succ]
            refine till_take 12 6 true (v := ?v12u4) (by kernel_rfl) (by kernel_rfl) (by kernel_rfl) (by kernel_rfl) (by kernel_rfl) (fun _ _ _ h => h) ?hw12u4 s0 ?hy12u4 ?rest12u4
            case hw12u4 => (simp only [List.getElem?_toArray, List.getElem?_cons_zero, List.getElem?_cons_succ, Option.elim]; rfl)
            case hy12u4 => (simp only [List.getElem?_toArray, List.getElem?_cons_zero, List.getElem?_cons_succ, Option.elim]; intro wx hx; have x1 := hx trivial; go_simp; with_reducible rfl)
            simp only [dstOf, List.getElem?_toArray, List.getElem?_cons_zero, List.getElem?_cons_succ, Option.bind, Act.put, List.setIfInBounds_toArray, List.set_cons_zero, List.set_cons_succ]
            refine till_before 8 (by kernel_rfl) (fun K hK => ?_)
            simp only [List.getElem?_toArray, List.getElem?_cons_zero, List.getElem?_cons_succ, Option.elim]
            rw [if_pos (by rfl)]
            go_simp
            go_at_call 25
            refine (o_all_raw (k := 2) MD.out rfl).mono ?_
            rintro e w11 ⟨v11, rfl, o11, n11, b11⟩
            have S11 := below_cell s0 b11
            have SAME := Lib.hid (same_one (l := J.l) (Nat.le_trans (HT.out.jour _ rfl).2 (by omega)) (texts_own o11) (HCK.out.fresh b11).texts)
            have M11 := Lib.hid (MD.out.fresh b11)
            clear o11 n11 b11
            refine hK.out _ _ S11 ?_
            clear hK K
            try simp only [Act.put, List.setIfInBounds_toArray, List.set_cons_zero, List.set_cons_succ]
            refine till_step 13 (by kernel_rfl) (by kernel_rfl) (fun K hK => ?_)
            simp only [List.getElem?_toArray, List.getElem?_cons_zero, List.getElem?_cons_succ, Option.elim]
            rw [if_pos (by rfl)]
            go_simp
            go_at_call 24
            refine SAME.out.mono ?_
            rintro e w12 ⟨rfl, b12⟩
            have M12 := Lib.hid (M11.out.fresh b12)
            clear b12 SAME M11
            refine hK.out _ _ ?_
            clear hK K
            try simp only [Act.put, List.setIfInBounds_toArray, List.set_cons_zero, List.set_cons_succ]
            refine till_late 14 (v := ?v14u4) (by kernel_rfl) (by kernel_rfl) (by kernel_rfl) (by kernel_rfl) (fun _ _ _ h => h) (by kernel_rfl) ?hw14u4 ?hy14u4 ?rest14u4
            case hw14u4 => (simp only [List.getElem?_toArray, List.getElem?_cons_zero, List.getElem?_cons_succ, Option.elim]; rfl)
            case hy14u4 => (simp only [List.getElem?_toArray, List.getElem?_cons_zero, List.getElem?_cons_succ, Option.elim]; intro wx; go_simp; with_reducible rfl)
            simp only [dstOf, List.getElem?_toArray, List.getElem?_cons_zero, List.getElem?_cons_succ, Option.bind, Act.put, List.setIfInBounds_toArray, List.set_cons_zero, List.set_cons_succ]
            refine till_late 15 (v := ?v15u4) (by kernel_rfl) (by kernel_rfl) (by kernel_rfl) (by kernel_rfl) (fun _ _ _ h => h) (by kernel_rfl) ?hw15u4 ?hy15u4 ?rest15u4
            case hw15u4 => (simp only [List.getElem?_toArray, List.getElem?_cons_zero, List.getElem?_cons_succ, Option.elim]; rfl)
            case hy15u4 => (simp only [List.getElem?_toArray, List.getElem?_cons_zero, List.getElem?_cons_succ, Option.elim]; intro wx; go_simp; with_reducible rfl)
            simp only [dstOf, List.getElem?_toArray, List.getElem?_cons_zero, List.getElem?_cons_succ, Option.bind, Act.put, List.setIfInBounds_toArray, List.set_cons_zero, List.set_cons_succ]
            refine till_end (by kernel_rfl) ?_ _
            go_wp2
            go_roundw
            case rel => exact ⟨k + 1, some (b, c, J), (D.arm x.N x.Keep), n, hk1, by go_num, rfl, rfl, Lib.hid (.yes b c _), HT, Lib.hid (M12.out.take 4)⟩
            case measure => simp [intOf]; omega
      by_cases k4 : x.K = 4
      · as_aux_lemma =>
          rw [k4] at d0
          have HSC := Lib.hid (HS.out.crash x.Keep)
          have M5 := Lib.hid (show OMem w w5 [.disk d D, .rdisk r D, .op wr.heap.size x (.slice va x.Keep.length vc)] from (tjobs_take HM.out).op_new HB5.out hc5 (Nat.le_refl _) hp5)
          clear HM HS HJ
          go_wp2_with (go_at_call 20; refine (o_crash (i := 0) M5.out rfl _ x.Keep (HN0.out.to M5.out.below) (by have := HF1.out.2; omega)).mono ?_; rintro e w6 ⟨rfl, m⟩; refine Hid.out ?_)
          refine Lib.hid ?_
          have M6 := Lib.hid (show OMem w w6 [.disk d (D.crash x.Keep), .rdisk r D, .op wr.heap.size x (.slice va x.Keep.length vc)] from m)
          have e3 : w6.cell? ⟨wr.heap.size, 3, none⟩ = some (.slice va x.Keep.length vc) := (m.op_at (i := 2) rfl).c3
          clear m M5
          go_wp2_with (go_at_call 21; refine (or_crash (i := 1) M6.out rfl _ x.Keep (HN0.out.to M6.out.below) (by have := HF1.out.2; omega)).mono ?_; rintro e w7 ⟨rfl, m⟩; refine Hid.out ?_)
          refine Lib.hid ?_
          have M7 := Lib.hid (show OMem w w7 [.disk d (D.crash x.Keep), .rdisk r (D.crash x.Keep), .op wr.heap.size x (.slice va x.Keep.length vc)] from m)
          clear m M6
          go_wp2_with (go_at_call 22; refine (o_start (i := 0) M7.out rfl).mono ?_; rintro e w8 ⟨rfl, m⟩; refine Hid.out ?_)
          refine Lib.hid ?_
          have M8 := Lib.hid (show OMem w w8 [.disk d (D.crash x.Keep).start, .rdisk r (D.crash x.Keep), .op wr.heap.size x (.slice va x.Keep.length vc)] from m)
          clear m M7
          go_wp2_with (go_at_call 23; refine (or_start (i := 1) M8.out rfl).mono ?_; rintro e w9 ⟨rfl, m⟩; refine Hid.out ?_)
          refine Lib.hid ?_
          have M9 := Lib.hid (show OMem w w9 [.disk d (D.crash x.Keep).start, .rdisk r (D.crash x.Keep).start] from m.take 2)
          clear m M8
          have HLN : Hid ((((D.crash x.Keep).start).now (3 : Int).toNat).length ≤ 100000) := Lib.hid (by have := HSC.out.start.len; show ((((D.crash x.Keep).start).now 3).length) ≤ 100000; omega)
          rcases HSC.out.start.opened with ⟨m0, D', p, s⟩ | ⟨l, D', p, s⟩
          · have P := Lib.hid p
            have S := Lib.hid (s.mono (show k ≤ k + 1 by omega))
            clear p s
            go_wp2_with (go_at_call 8; refine (o_open0 (i := 0) M9.out rfl 3 ⟨by decide, by decide⟩ he P.out).mono ?_; rintro e w10 ⟨rfl, m⟩; refine Hid.out ?_)
            refine Lib.hid ?_
            have MA := Lib.hid (show OMem w w10 [.disk d D', .rdisk r (D.crash x.Keep).start] from m)
            clear m M9
            go_wp2_with (go_at_call 9; refine (or_open0 (i := 1) MA.out rfl 3 ⟨by decide, by decide⟩ HLN.out P.out).mono ?_; rintro e wb ⟨rfl, m⟩; refine Hid.out ?_)
            refine Lib.hid ?_
            have MB := Lib.hid (show OMem w wb [.disk d D', .rdisk r D'] from m)
            clear m MA
            go_wp2
            go_quiet (fail)
            go_wp2
            go_roundw
            case rel => exact ⟨k + 1, none, D', m0, hk1, by go_num, rfl, rfl, Lib.hid .no, S, Lib.hid ((MB.out.take 2).fresh (below_drewN (Below.refl _ _) nq))⟩
            case measure => simp [intOf]; omega
          · have P := Lib.hid p
            have S := Lib.hid (s.mono (show k ≤ k + 1 by omega))
            clear p s
            go_wp2_with (go_at_call 8; refine (o_open1 (i := 0) M9.out rfl 3 ⟨by decide, by decide⟩ he P.out).mono ?_; rintro e w10 ⟨b, rfl, m⟩; refine Hid.out ?_)
            refine Lib.hid ?_
            have MA := Lib.hid (show OMem w w10 [.disk d D', .rdisk r (D.crash x.Keep).start, .jour b d ⟨3, l, false⟩] from m)
            clear m M9
            go_wp2_with (go_at_call 9; refine (or_open1 (i := 1) MA.out rfl 3 ⟨by decide, by decide⟩ HLN.out P.out).mono ?_; rintro e wb ⟨c, rfl, m⟩; refine Hid.out ?_)
            refine Lib.hid ?_
            have MD := Lib.hid ((show OMem w wb [.disk d D', .rdisk r D', .jour b d ⟨3, l, false⟩, .rjour c r ⟨3, l, false⟩] from m).fresh (below_drew wb))
            clear m MA
            go_wp2
            have HT := Lib.hid (show Tel (k + 1) D' (some (⟨3, l, false⟩ : Jn)) from S.out)
            obtain ⟨vk, hck⟩ := MD.out.rjour (k := 3) rfl
            have s0 := hck.c2
            have HCK := Lib.hid hck
            clear hck
            refine region_till 13 (fun w' => w'.cell? ⟨c, 2, none⟩ = some vk) (by kernel_rfl) ?_
            refine till_take 0 6 false (v := ?v0u5) (by kernel_rfl) (by kernel_rfl) (by kernel_rfl) (by kernel_rfl) (by kernel_rfl) (fun _ _ _ h => h) ?hw0u5 s0 ?hy0u5 ?rest0u5
            case hw0u5 => (simp only [List.getElem?_toArray, List.getElem?_cons_zero, Option.elim]; rfl)
            case hy0u5 => (simp only [List.getElem?_toArray, List.getElem?_cons_zero, Option.elim]; intro wx _; go_simp; with_reducible rfl)
            simp only [dstOf, List.getElem?_toArray, List.getElem?_cons_zero, Option.bind, Act.put, List.setIfInBounds_toArray, List.set_cons_zero, List.set_cons_succ]
            refine till_take 1 6 false (v := ?v1u5) (by kernel_rfl) (by kernel_rfl) (by kernel_rfl) (by kernel_rfl) (by kernel_rfl) (fun _ _ _ h => h) ?hw1u5 s0 ?hy1u5 ?rest1u5
            case hw1u5 => (simp only [List.getElem?_toArray, List.getElem?_cons_zero, List.getElem?_cons_succ, Option.elim]; rfl)
            case hy1u5 => (simp only [List.getElem?_toArray, List.getElem?_cons_zero, List.getElem?_cons_succ, Option.elim]; intro wx _; go_simp; with_reducible rfl)
            simp only [dstOf, List.getElem?_toArray, List.getElem?_cons_zero, List.getElem?_cons_succ, Option.bind, Act.put, List.setIfInBounds_toArray, List.set_cons_zero, List.set_cons_succ]
            refine till_take 2 6 false (v := ?v2u5) (by kernel_rfl) (by kernel_rfl) (by kernel_rfl) (by kernel_rfl) (by kernel_rfl) (fun _ _ _ h => h) ?hw2u5 s0 ?hy2u5 ?rest2u5
            case hw2u5 => (simp only [List.getElem?_toArray, List.getElem?_cons_zero, List.getElem?_cons_succ, Option.elim]; rfl)
            case hy2u5 => (simp only [List.getElem?_toArray, List.getElem?_cons_zero, List.getElem?_cons_succ, Option.elim]; intro wx _; go_simp; with_reducible rfl)
            simp only [dstOf, List.getElem?_toArray, List.getElem?_cons_zero, List.getElem?_cons_succ, Option.bind, Act.put, List.setIfInBounds_toArray, List.set_cons_zero, List.set_cons_succ]
            refine till_take 3 6 false (v := ?v3u5) (by kernel_rfl) (by kernel_rfl) (by kernel_rfl) (by kernel_rfl) (by kernel_rfl) (fun _ _ _ h => h) ?hw3u5 s0 ?hy3u5 ?rest3u5
            case hw3u5 => (simp only [List.getElem?_toArray, List.getElem?_cons_zero, List.getElem?_cons_succ, Option.elim]; rfl)
            case hy3u5 => (simp only [List.getElem?_toArray, List.getElem?_cons_zero, List.getElem?_cons_succ, Option.elim]; intro wx _; go_simp; with_reducible rfl)
            simp only [dstOf, List.getElem?_toArray, List.getElem?_cons_zero, List.getElem?_cons_succ, Option.bind, Act.put, List.setIfInBounds_toArray, List.set_cons_zero, List.set_cons_succ]
            refine till_take 4 6 false (v := ?v4u5) (by kernel_rfl) (by kernel_rfl) (by kernel_rfl) (by kernel_rfl) (by kernel_rfl) (fun _ _ _ h => h) ?hw4u5 s0 ?hy4u5 ?rest4u5
            case hw4u5 => (simp only [List.getElem?_toArray, List.getElem?_cons_zero, List.getElem?_cons_succ, Option.elim]; rfl)
            case hy4u5 => (simp only [List.getElem?_toArray, List.getElem?_cons_zero, List.getElem?_cons_succ, Option.elim]; intro wx _; go_simp; with_reducible rfl)
            simp only [dstOf, List.getElem?_toArray, List.getElem?_cons_zero, List.getElem?_cons_succ, Option.bind, Act.put, List.setIfInBounds_toArray, List.set_cons_zero, List.set_cons_succ]
            refine till_take 5 6 false (v := ?v5u5) (by kernel_rfl) (by kernel_rfl) (by kernel_rfl) (by kernel_rfl) (by kernel_rfl) (fun _ _ _ h => h) ?hw5u5 s0 ?hy5u5 ?rest5u5
            case hw5u5 => (simp only [List.getElem?_toArray, List.getElem?_cons_zero, List.getElem?_cons_succ, Option.elim]; rfl)
            case hy5u5 => (simp only [List.getElem?_toArray, List.getElem?_cons_zero, List.getElem?_cons_succ, Option.elim]; intro wx _; go_simp; with_reducible rfl)
            simp only [dstOf, List.getElem?_toArray, List.getElem?_cons_zero, List.getElem?_cons_succ, Option.bind, Act.put, List.setIfInBounds_toArray, List.set_cons_zero, List.set_cons_succ]
            refine till_take 6 6 false (v := ?v6u5) (by kernel_rfl) (by kernel_rfl) (by kernel_rfl) (by kernel_rfl) (by kernel_rfl) (fun _ _ _ h => h) ?hw6u5 s0 ?hy6u5 ?rest6u5
            case hw6u5 => (simp only [List.getElem?_toArray, List.getElem?_cons_zero, List.getElem?_cons_succ, Option.elim]; rfl)
            case hy6u5 => (simp only [List.getElem?_toArray, List.getElem?_cons_zero, List.getElem?_cons_succ, Option.elim]; intro wx _; go_simp; with_reducible rfl)
            simp only [dstOf, List.getElem?_toArray, List.getElem?_cons_zero, List.getElem?_cons_succ, Option.bind, Act.put, List.setIfInBounds_toArray, List.set_cons_zero, List.set_cons_succ]
            refine till_take 7 6 false (v := ?v7u5) (by kernel_rfl) (by kernel_rfl) (by kernel_rfl) (by kernel_rfl) (by kernel_rfl) (fun _ _ _ h => h) ?hw7u5 s0 ?hy7u5 ?rest7u5
            case hw7u5 => (simp only [List.getElem?_toArray, List.getElem?_cons_zero, List.getElem?_cons_succ, Option.elim]; rfl)
            case hy7u5 => (simp only [List.getElem?_toArray, List.getElem?_cons_zero, List.getElem?_cons_succ, Option.elim]; intro wx _; go_simp; with_reducible rfl)
            simp only [dstOf, List.getElem?_toArray, List.getElem?_cons_zero, List.getElem?_cons_succ, Option.bind, Act.put, List.setIfInBounds_toArray, List.set_cons_zero, List.set_cons_succ]
            refine till_take 9 6 false (v := ?v9u5) (by kernel_rfl) (by kernel_rfl) (by kernel_rfl) (by kernel_rfl) (by kernel_rfl) (fun _ _ _ h => h) ?hw9u5 s0 ?hy9u5 ?rest9u5
            case hw9u5 => (simp only [List.getElem?_toArray, List.getElem?_cons_zero, List.getElem?_cons_succ, Option.elim]; rfl)
            case hy9u5 => (simp only [List.getElem?_toArray, List.getElem?_cons_zero, List.getElem?_cons_succ, Option.elim]; intro wx _; go_simp; with_reducible rfl)
            simp only [dstOf, List.getElem?_toArray, List.getElem?_cons_zero, List.getElem?_cons_succ, Option.bind, Act.put, List.setIfInBounds_toArray, List.set_cons_zero, List.set_cons_succ]
            refine till_take 10 6 false (v := ?v10u5) (by kernel_rfl) (by kernel_rfl) (by kernel_rfl) (by kernel_rfl) (by kernel_rfl) (fun _ _ _ h => h) ?hw10u5 s0 ?hy10u5 ?rest10u5
            case hw10u5 => (simp only [List.getElem?_toArray, List.getElem?_cons_zero, List.getElem?_cons_succ, Option.elim]; rfl)
            case hy10u5 => (simp only [List.getElem?_toArray, List.getElem?_cons_zero, List.getElem?_cons_succ, Option.elim]; intro wx _; go_simp; with_reducible rfl)
            simp only [dstOf, List.getElem?_toArray, List.getElem?_cons_zero, List.getElem?_cons_succ, Option.bind, Act.put, List.setIfInBounds_toArray, List.set_cons_zero, List.set_cons_succ]
            refine till_take 11 6 false (v := ?v11u5) (by kernel_rfl) (by kernel_rfl) (by kernel_rfl) (by kernel_rfl) (by kernel_rfl) (fun _ _ _ h => h) ?hw11u5 s0 ?hy11u5 ?rest11u5
            case hw11u5 => (simp only [List.getElem?_toArray, List.getElem?_cons_zero, List.getElem?_cons_succ, Option.elim]; rfl)
            case hy11u5 => (simp only [List.getElem?_toArray, List.getElem?_cons_zero, List.getElem?_cons_succ, Option.elim]; intro wx _; go_simp; with_reducible rfl)
            simp only [dstOf, List.getElem?_toArray, List.getElem?_cons_zero, List.getElem?_cons_succ, Option.bind, Act.put, List.setIfInBounds_toArray, List.set_cons_zero, List.set_cons_succ]
            refine till_take 12 6 true (v := ?v12u5) (by kernel_rfl) (by kernel_rfl) (by kernel_rfl) (by kernel_rfl) (by kernel_rfl) (fun _ _ _ h => h) ?hw12u5 s0 ?hy12u5 ?rest12u5
            case hw12u5 => (simp only [List.getElem?_toArray, List.getElem?_cons_zero, List.getElem?_cons_succ, Option.elim]; rfl)
            case hy12u5 => (simp only [List.getElem?_toArray, List.getElem?_cons_zero, List.getElem?_cons_succ, Option.elim]; intro wx hx; have x1 := hx trivial; go_simp; with_reducible rfl)
            simp only [dstOf, List.getElem?_toArray, List.getElem?_cons_zero, List.getElem?_cons_succ, Option.bind, Act.put, List.setIfInBounds_toArray, List.set_cons_zero, List.set_cons_succ]
            refine till_before 8 (by kernel_rfl) (fun K hK => ?_)
            simp only [List.getElem?_toArray, List.getElem?_cons_zero, List.getElem?_cons_succ, Option.elim]
            rw [if_pos (by rfl)]
            go_simp
            go_at_call 25
            refine (o_all_raw (k := 2) MD.out rfl).mono ?_
            rintro e w11 ⟨v11, rfl, o11, n11, b11⟩
            have S11 := below_cell s0 b11
            have SAME := Lib.hid (same_one (l := (⟨3, l, false⟩ : Jn).l) (Nat.le_trans (HT.out.jour _ rfl).2 (by omega)) (texts_own o11) (HCK.out.fresh b11).texts)
            have M11 := Lib.hid (MD.out.fresh b11)
            clear o11 n11 b11
            refine hK.out _ _ S11 ?_
            clear hK K
            try simp only [Act.put, List.setIfInBounds_toArray, List.set_cons_zero, List.set_cons_succ]
            refine till_step 13 (by kernel_rfl) (by kernel_rfl) (fun K hK => ?_)
            simp only [List.getElem?_toArray, List.getElem?_cons_zero, List.getElem?_cons_succ, Option.elim]
            rw [if_pos (by rfl)]
            go_simp
            go_at_call 24
            refine SAME.out.mono ?_
            rintro e w12 ⟨rfl, b12⟩
            have M12 := Lib.hid (M11.out.fresh b12)
            clear b12 SAME M11
            refine hK.out _ _ ?_
            clear hK K
            try simp only [Act.put, List.setIfInBounds_toArray, List.set_cons_zero, List.set_cons_succ]
            refine till_late 14 (v := ?v14u5) (by kernel_rfl) (by kernel_rfl) (by kernel_rfl) (by kernel_rfl) (fun _ _ _ h => h) (by kernel_rfl) ?hw14u5 ?hy14u5 ?rest14u5
            case hw14u5 => (simp only [List.getElem?_toArray, List.getElem?_cons_zero, List.getElem?_cons_succ, Option.elim]; rfl)
            case hy14u5 => (simp only [List.getElem?_toArray, List.getElem?_cons_zero, List.getElem?_cons_succ, Option.elim]; intro wx; go_simp; with_reducible rfl)
            simp only [dstOf, List.getElem?_toArray, List.getElem?_cons_zero, List.getElem?_cons_succ, Option.bind, Act.put, List.setIfInBounds_toArray, List.set_cons_zero, List.set_cons_succ]
            refine till_late 15 (v := ?v15u5) (by kernel_rfl) (by kernel_rfl) (by kernel_rfl) (by kernel_rfl) (fun _ _ _ h => h) (by kernel_rfl) ?hw15u5 ?hy15u5 ?rest15u5
            case hw15u5 => (simp only [List.getElem?_toArray, List.getElem?_cons_zero, List.getElem?_cons_succ, Option.elim]; rfl)
            case hy15u5 => (simp only [List.getElem?_toArray, List.getElem?_cons_zero, List.getElem?_cons_succ, Option.elim]; intro wx; go_simp; with_reducible rfl)
            simp only [dstOf, List.getElem?_toArray, List.getElem?_cons_zero, List.getElem?_cons_succ, Option.bind, Act.put, List.setIfInBounds_toArray, List.set_cons_zero, List.set_cons_succ]
            refine till_end (by kernel_rfl) ?_ _
            go_wp2
            go_roundw
            case rel => exact ⟨k + 1, some (b, c, (⟨3, l, false⟩ : Jn)), D', 0, hk1, by go_num, rfl, rfl, Lib.hid (.yes b c _), HT, Lib.hid (M12.out.take 4)⟩
            case measure => simp [intOf]; omega
      by_cases k5 : x.K = 5
      · as_aux_lemma =>
          rw [k5] at d0
          have HSC := Lib.hid (HS.out.mono (Nat.le_refl k))
          have M5 := Lib.hid (show OMem w w5 [.disk d D, .rdisk r D, .op wr.heap.size x (.slice va x.Keep.length vc)] from (tjobs_take HM.out).op_new HB5.out hc5 (Nat.le_refl _) hp5)
          clear HM HS HJ
          go_wp2_with (go_at_call 22; refine (o_start (i := 0) M5.out rfl).mono ?_; rintro e w8 ⟨rfl, m⟩; refine Hid.out ?_)
          refine Lib.hid ?_
          have M8 := Lib.hid (show OMem w w8 [.disk d D.start, .rdisk r D, .op wr.heap.size x (.slice va x.Keep.length vc)] from m)
          clear m M5
          go_wp2_with (go_at_call 23; refine (or_start (i := 1) M8.out rfl).mono ?_; rintro e w9 ⟨rfl, m⟩; refine Hid.out ?_)
          refine Lib.hid ?_
          have M9 := Lib.hid (show OMem w w9 [.disk d D.start, .rdisk r D.start] from m.take 2)
          clear m M8
          have HLN : Hid (((D.start).now (3 : Int).toNat).length ≤ 100000) := Lib.hid (by have := HSC.out.start.len; show (((D.start).now 3).length) ≤ 100000; omega)
          rcases HSC.out.start.opened with ⟨m0, D', p, s⟩ | ⟨l, D', p, s⟩
          · have P := Lib.hid p
            have S := Lib.hid (s.mono (show k ≤ k + 1 by omega))
            clear p s
            go_wp2_with (go_at_call 8; refine (o_open0 (i := 0) M9.out rfl 3 ⟨by decide, by decide⟩ he P.out).mono ?_; rintro e w10 ⟨rfl, m⟩; refine Hid.out ?_)
            refine Lib.hid ?_
            have MA := Lib.hid (show OMem w w10 [.disk d D', .rdisk r D.start] from m)
            clear m M9
            go_wp2_with (go_at_call 9; refine (or_open0 (i := 1) MA.out rfl 3 ⟨by decide, by decide⟩ HLN.out P.out).mono ?_; rintro e wb ⟨rfl, m⟩; refine Hid.out ?_)
            refine Lib.hid ?_
            have MB := Lib.hid (show OMem w wb [.disk d D', .rdisk r D'] from m)
            clear m MA
            go_wp2
            go_quiet (fail)
            go_wp2
            go_roundw
            case rel => exact ⟨k + 1, none, D', m0, hk1, by go_num, rfl, rfl, Lib.hid .no, S, Lib.hid ((MB.out.take 2).fresh (below_drewN (Below.refl _ _) nq))⟩
            case measure => simp [intOf]; omega
          · have P := Lib.hid p
            have S := Lib.hid (s.mono (show k ≤ k + 1 by omega))
            clear p s
            go_wp2_with (go_at_call 8; refine (o_open1 (i := 0) M9.out rfl 3 ⟨by decide, by decide⟩ he P.out).mono ?_; rintro e w10 ⟨b, rfl, m⟩; refine Hid.out ?_)
            refine Lib.hid ?_
            have MA := Lib.hid (show OMem w w10 [.disk d D', .rdisk r D.start, .jour b d ⟨3, l, false⟩] from m)
            clear m M9
            go_wp2_with (go_at_call 9; refine (or_open1 (i := 1) MA.out rfl 3 ⟨by decide, by decide⟩ HLN.out P.out).mono ?_; rintro e wb ⟨c, rfl, m⟩; refine Hid.out ?_)
            refine Lib.hid ?_
            have MD := Lib.hid ((show OMem w wb [.disk d D', .rdisk r D', .jour b d ⟨3, l, false⟩, .rjour c r ⟨3, l, false⟩] from m).fresh (below_drew wb))
            clear m MA
            go_wp2
            have HT := Lib.hid (show Tel (k + 1) D' (some (⟨3, l, false⟩ : Jn)) from S.out)
            obtain ⟨vk, hck⟩ := MD.out.rjour (k := 3) rfl
            have s0 := hck.c2
            have HCK := Lib.hid hck
            clear hck
            refine region_till 13 (fun w' => w'.cell? ⟨c, 2, none⟩ = some vk) (by kernel_rfl) ?_
            refine till_take 0 6 false (v := ?v0u6) (by kernel_rfl) (by kernel_rfl) (by kernel_rfl) (by kernel_rfl) (by kernel_rfl) (fun _ _ _ h => h) ?hw0u6 s0 ?hy0u6 ?rest0u6
            case hw0u6 => (simp only [List.getElem?_toArray, List.getElem?_cons_zero, Option.elim]; rfl)
            case hy0u6 => (simp only [List.getElem?_toArray, List.getElem?_cons_zero, Option.elim]; intro wx _; go_simp; with_reducible rfl)
            simp only [dstOf, List.getElem?_toArray, List.getElem?_cons_zero, Option.bind, Act.put, List.setIfInBounds_toArray, List.set_cons_zero, List.set_cons_succ]
            refine till_take 1 6 false (v := ?v1u6) (by kernel_rfl) (by kernel_rfl) (by kernel_rfl) (by kernel_rfl) (by kernel_rfl) (fun _ _ _ h => h) ?hw1u6 s0 ?hy1u6 ?rest1u6
            case hw1u6 => (simp only [List.getElem?_toArray, List.getElem?_cons_zero, List.getElem?_cons_succ, Option.elim]; rfl)
            case hy1u6 => (simp only [List.getElem?_toArray, List.getElem?_cons_zero, List.getElem?_cons_succ, Option.elim]; intro wx _; go_simp; with_reducible rfl)
            simp only [dstOf, List.getElem?_toArray, List.getElem?_cons_zero, List.getElem?_cons_succ, Option.bind, Act.put, List.setIfInBounds_toArray, List.set_cons_zero, List.set_cons_succ]
            refine till_take 2 6 false (v := ?v2u6) (by kernel_rfl) (by kernel_rfl) (by kernel_rfl) (by kernel_rfl) (by kernel_rfl) (fun _ _ _ h => h) ?hw2u6 s0 ?hy2u6 ?rest2u6
            case hw2u6 => (simp only [List.getElem?_toArray, List.getElem?_cons_zero, List.getElem?_cons_succ, Option.elim]; rfl)
            case hy2u6 => (simp only [List.getElem?_toArray, List.getElem?_cons_zero, List.getElem?_cons_succ, Option.elim]; intro wx _; go_simp; with_reducible rfl)
            simp only [dstOf, List.getElem?_toArray, List.getElem?_cons_zero, List.getElem?_cons_succ, Option.bind, Act.put, List.setIfInBounds_toArray, List.set_cons_zero, List.set_cons_succ]
            refine till_take 3 6 false (v := ?v3u6) (by kernel_rfl) (by kernel_rfl) (by kernel_rfl) (by kernel_rfl) (by kernel_rfl) (fun _ _ _ h => h) ?hw3u6 s0 ?hy3u6 ?rest3u6
            case hw3u6 => (simp only [List.getElem?_toArray, List.getElem?_cons_zero, List.getElem?_cons_succ, Option.elim]; rfl)
            case hy3u6 => (simp only [List.getElem?_toArray, List.getElem?_cons_zero, List.getElem?_cons_succ, Option.elim]; intro wx _; go_simp; with_reducible rfl)
            simp only [dstOf, List.getElem?_toArray, List.getElem?_cons_zero, List.getElem?_cons_succ, Option.bind, Act.put, List.setIfInBounds_toArray, List.set_cons_zero, List.set_cons_succ]
            refine till_take 4 6 false (v := ?v4u6) (by kernel_rfl) (by kernel_rfl) (by kernel_rfl) (by kernel_rfl) (by kernel_rfl) (fun _ _ _ h => h) ?hw4u6 s0 ?hy4u6 ?rest4u6
            case hw4u6 => (simp only [List.getElem?_toArray, List.getElem?_cons_zero, List.getElem?_cons_succ, Option.elim]; rfl)
            case hy4u6 => (simp only [List.getElem?_toArray, List.getElem?_cons_zero, List.getElem?_cons_succ, Option.elim]; intro wx _; go_simp; with_reducible rfl)
            simp only [dstOf, List.getElem?_toArray, List.getElem?_cons_zero, List.getElem?_cons_succ, Option.bind, Act.put, List.setIfInBounds_toArray, List.set_cons_zero, List.set_cons_succ]
            refine till_take 5 6 false (v := ?v5u6) (by kernel_rfl) (by kernel_rfl) (by kernel_rfl) (by kernel_rfl) (by kernel_rfl) (fun _ _ _ h => h) ?hw5u6 s0 ?hy5u6 ?rest5u6
            case hw5u6 => (simp only [List.getElem?_toArray, List.getElem?_cons_zero, List.getElem?_cons_succ, Option.elim]; rfl)
            case hy5u6 => (simp only [List.getElem?_toArray, List.getElem?_cons_zero, List.getElem?_cons_succ, Option.elim]; intro wx _; go_simp; with_reducible rfl)
            simp only [dstOf, List.getElem?_toArray, List.getElem?_cons_zero, List.getElem?_cons_succ, Option.bind, Act.put, List.setIfInBounds_toArray, List.set_cons_zero, List.set_cons_succ]
            refine till_take 6 6 false (v := ?v6u6) (by kernel_rfl) (by kernel_rfl) (by kernel_rfl) (by kernel_rfl) (by kernel_rfl) (fun _ _ _ h => h) ?hw6u6 s0 ?hy6u6 ?rest6u6
            case hw6u6 => (simp only [List.getElem?_toArray, List.getElem?_cons_zero, List.getElem?_cons_succ, Option.elim]; rfl)
            case hy6u6 => (simp only [List.getElem?_toArray, List.getElem?_cons_zero, List.getElem?_cons_succ, Option.elim]; intro wx _; go_simp; with_reducible rfl)
            simp only [dstOf, List.getElem?_toArray, List.getElem?_cons_zero, List.getElem?_cons_succ, Option.bind, Act.put, List.setIfInBounds_toArray, List.set_cons_zero, List.set_cons_succ]
            refine till_take 7 6 false (v := ?v7u6) (by kernel_rfl) (by kernel_rfl) (by kernel_rfl) (by kernel_rfl) (by kernel_rfl) (fun _ _ _ h => h) ?hw7u6 s0 ?hy7u6 ?rest7u6
            case hw7u6 => (simp only [List.getElem?_toArray, List.getElem?_cons_zero, List.getElem?_cons_succ, Option.elim]; rfl)
            case hy7u6 => (simp only [List.getElem?_toArray, List.getElem?_cons_zero, List.getElem?_cons_succ, Option.elim]; intro wx _; go_simp; with_reducible rfl)
            simp only [dstOf, List.getElem?_toArray, List.getElem?_cons_zero, List.getElem?_cons_succ, Option.bind, Act.put, List.setIfInBounds_toArray, List.set_cons_zero, List.set_cons_succ]
            refine till_take 9 6 false (v := ?v9u6) (by kernel_rfl) (by kernel_rfl) (by kernel_rfl) (by kernel_rfl) (by kernel_rfl) (fun _ _ _ h => h) ?hw9u6 s0 ?hy9u6 ?rest9u6
            case hw9u6 => (simp only [List.getElem?_toArray, List.getElem?_cons_zero, List.getElem?_cons_succ, Option.elim]; rfl)
            case hy9u6 => (simp only [List.getElem?_toArray, List.getElem?_cons_zero, List.getElem?_cons_succ, Option.elim]; intro wx _; go_simp; with_reducible rfl)
            simp only [dstOf, List.getElem?_toArray, List.getElem?_cons_zero, List.getElem?_cons_succ, Option.bind, Act.put, List.setIfInBounds_toArray, List.set_cons_zero, List.set_cons_succ]
            refine till_take 10 6 false (v := ?v10u6) (by kernel_rfl) (by kernel_rfl) (by kernel_rfl) (by kernel_rfl) (by kernel_rfl) (fun _ _ _ h => h) ?hw10u6 s0 ?hy10u6 ?rest10u6
            case hw10u6 => (simp only [List.getElem?_toArray, List.getElem?_cons_zero, List.getElem?_cons_succ, Option.elim]; rfl)
            case hy10u6 => (simp only [List.getElem?_toArray, List.getElem?_cons_zero, List.getElem?_cons_succ, Option.elim]; intro wx _; go_simp; with_reducible rfl)
            simp only [dstOf, List.getElem?_toArray, List.getElem?_cons_zero, List.getElem?_cons_succ, Option.bind, Act.put, List.setIfInBounds_toArray, List.set_cons_zero, List.set_cons_succ]
            refine till_take 11 6 false (v := ?v11u6) (by kernel_rfl) (by kernel_rfl) (by kernel_rfl) (by kernel_rfl) (by kernel_rfl) (fun _ _ _ h => h) ?hw11u6 s0 ?hy11u6 ?rest11u6
            case hw11u6 => (simp only [List.getElem?_toArray, List.getElem?_cons_zero, List.getElem?_cons_succ, Option.elim]; rfl)
            case hy11u6 => (simp only [List.getElem?_toArray, List.getElem?_cons_zero, List.getElem?_cons_succ, Option.elim]; intro wx _; go_simp; with_reducible rfl)
            simp only [dstOf, List.getElem?_toArray, List.getElem?_cons_zero, List.getElem?_cons_succ, Option.bind, Act.put, List.setIfInBounds_toArray, List.set_cons_zero, List.set_cons_succ]
            refine till_take 12 6 true (v := ?v12u6) (by kernel_rfl) (by kernel_rfl) (by kernel_rfl) (by kernel_rfl) (by kernel_rfl) (fun _ _ _ h => h) ?hw12u6 s0 ?hy12u6 ?rest12u6
            case hw12u6 => (simp only [List.getElem?_toArray, List.getElem?_cons_zero, List.getElem?_cons_succ, Option.elim]; rfl)
            case hy12u6 => (simp only [List.getElem?_toArray, List.getElem?_cons_zero, List.getElem?_cons_succ, Option.elim]; intro wx hx; have x1 := hx trivial; go_simp; with_reducible rfl)
            simp only [dstOf, List.getElem?_toArray, List.getElem?_cons_zero, List.getElem?_cons_succ, Option.bind, Act.put, List.setIfInBounds_toArray, List.set_cons_zero, List.set_cons_succ]
            refine till_before 8 (by kernel_rfl) (fun K hK => ?_)
            simp only [List.getElem?_toArray, List.getElem?_cons_zero, List.getElem?_cons_succ, Option.elim]
            rw [if_pos (by rfl)]
            go_simp
            go_at_call 25
            refine (o_all_raw (k := 2) MD.out rfl).mono ?_
            rintro e w11 ⟨v11, rfl, o11, n11, b11⟩
            have S11 := below_cell s0 b11
            have SAME := Lib.hid (same_one (l := (⟨3, l, false⟩ : Jn).l) (Nat.le_trans (HT.out.jour _ rfl).2 (by omega)) (texts_own o11) (HCK.out.fresh b11).texts)
            have M11 := Lib.hid (MD.out.fresh b11)
            clear o11 n11 b11
            refine hK.out _ _ S11 ?_
            clear hK K
            try simp only [Act.put, List.setIfInBounds_toArray, List.set_cons_zero, List.set_cons_succ]
            refine till_step 13 (by kernel_rfl) (by kernel_rfl) (fun K hK => ?_)
            simp only [List.getElem?_toArray, List.getElem?_cons_zero, List.getElem?_cons_succ, Option.elim]
            rw [if_pos (by rfl)]
            go_simp
            go_at_call 24
            refine SAME.out.mono ?_
            rintro e w12 ⟨rfl, b12⟩
            have M12 := Lib.hid (M11.out.fresh b12)
            clear b12 SAME M11
            refine hK.out _ _ ?_
            clear hK K
            try simp only [Act.put, List.setIfInBounds_toArray, List.set_cons_zero, List.set_cons_succ]
            refine till_late 14 (v := ?v14u6) (by kernel_rfl) (by kernel_rfl) (by kernel_rfl) (by kernel_rfl) (fun _ _ _ h => h) (by kernel_rfl) ?hw14u6 ?hy14u6 ?rest14u6
            case hw14u6 => (simp only [List.getElem?_toArray, List.getElem?_cons_zero, List.getElem?_cons_succ, Option.elim]; rfl)
            case hy14u6 => (simp only [List.getElem?_toArray, List.getElem?_cons_zero, List.getElem?_cons_succ, Option.elim]; intro wx; go_simp; with_reducible rfl)
            simp only [dstOf, List.getElem?_toArray, List.getElem?_cons_zero, List.getElem?_cons_succ, Option.bind, Act.put, List.setIfInBounds_toArray, List.set_cons_zero, List.set_cons_succ]
            refine till_late 15 (v := ?v15u6) (by kernel_rfl) (by kernel_rfl) (by kernel_rfl) (by kernel_rfl) (fun _ _ _ h => h) (by kernel_rfl) ?hw15u6 ?hy15u6 ?rest15u6
            case hw15u6 => (simp only [List.getElem?_toArray, List.getElem?_cons_zero, List.getElem?_cons_succ, Option.elim]; rfl)
            case hy15u6 => (simp only [List.getElem?_toArray, List.getElem?_cons_zero, List.getElem?_cons_succ, Option.elim]; intro wx; go_simp; with_reducible rfl)
            simp only [dstOf, List.getElem?_toArray, List.getElem?_cons_zero, List.getElem?_cons_succ, Option.bind, Act.put, List.setIfInBounds_toArray, List.set_cons_zero, List.set_cons_succ]
            refine till_end (by kernel_rfl) ?_ _
            go_wp2
            go_roundw
            case rel => exact ⟨k + 1, some (b, c, (⟨3, l, false⟩ : Jn)), D', 0, hk1, by go_num, rfl, rfl, Lib.hid (.yes b c _), HT, Lib.hid (M12.out.take 4)⟩
            case measure => simp [intOf]; omega
      as_aux_lemma =>
        have S := Lib.hid (HS.out.mono (show k ≤ k + 1 by omega))
        have hj := HJ.out
        cases hj with
        | no =>
          have M5 := Lib.hid (show OMem w w5 [.disk d D, .rdisk r D] from HM.out.fresh HB5.out)
          clear HM HS
          go_wp2
          go_quiet (fail)
          go_wp2
          go_roundw
          case rel => exact ⟨k + 1, none, D, n, hk1, by go_num, rfl, rfl, Lib.hid .no, S, Lib.hid ((M5.out.take 2).fresh (below_drewN (Below.refl _ _) nq))⟩
          case measure => simp [intOf]; omega
        | yes b c J =>
          have MD := Lib.hid (show OMem w w5.drew [.disk d D, .rdisk r D, .jour b d J, .rjour c r J] from (HM.out.fresh HB5.out).fresh (below_drew w5))
          clear HM HS
          go_wp2
          have HT := Lib.hid (show Tel (k + 1) D (some J) from S.out)
          obtain ⟨vk, hck⟩ := MD.out.rjour (k := 3) rfl
          have s0 := hck.c2
          have HCK := Lib.hid hck
          clear hck
          refine region_till 13 (fun w' => w'.cell? ⟨c, 2, none⟩ = some vk) (by kernel_rfl) ?_
          refine till_take 0 6 false (v := ?v0u7) (by kernel_rfl) (by kernel_rfl) (by kernel_rfl) (by kernel_rfl) (by kernel_rfl) (fun _ _ _ h => h) ?hw0u7 s0 ?hy0u7 ?rest0u7
          case hw0u7 => (simp only [List.getElem?_toArray, List.getElem?_cons_zero, Option.elim]; rfl)
          case hy0u7 => (simp only [List.getElem?_toArray, List.getElem?_cons_zero, Option.elim]; intro wx _; go_simp; with_reducible rfl)
          simp only [dstOf, List.getElem?_toArray, List.getElem?_cons_zero, Option.bind, Act.put, List.setIfInBounds_toArray, List.set_cons_zero, List.set_cons_succ]
          refine till_take 1 6 false (v := ?v1u7) (by kernel_rfl) (by kernel_rfl) (by kernel_rfl) (by kernel_rfl) (by kernel_rfl) (fun _ _ _ h => h) ?hw1u7 s0 ?hy1u7 ?rest1u7
          case hw1u7 => (simp only [List.getElem?_toArray, List.getElem?_cons_zero, List.getElem?_cons_succ, Option.elim]; rfl)
          case hy1u7 => (simp only [List.getElem?_toArray, List.getElem?_cons_zero, List.getElem?_cons_succ, Option.elim]; intro wx _; go_simp; with_reducible rfl)
          simp only [dstOf, List.getElem?_toArray, List.getElem?_cons_zero, List.getElem?_cons_succ, Option.bind, Act.put, List.setIfInBounds_toArray, List.set_cons_zero, List.set_cons_succ]
          refine till_take 2 6 false (v := ?v2u7) (by kernel_rfl) (by kernel_rfl) (by kernel_rfl) (by kernel_rfl) (by kernel_rfl) (fun _ _ _ h => h) ?hw2u7 s0 ?hy2u7 ?rest2u7
          case hw2u7 => (simp only [List.getElem?_toArray, List.getElem?_cons_zero, List.getElem?_cons_succ, Option.elim]; rfl)
          case hy2u7 => (simp only [List.getElem?_toArray, List.getElem?_cons_zero, List.getElem?_cons_succ, Option.elim]; intro wx _; go_simp; with_reducible rfl)
          simp only [dstOf, List.getElem?_toArray, List.getElem?_cons_zero, List.getElem?_cons_succ, Option.bind, Act.put, List.setIfInBounds_toArray, List.set_cons_zero, List.set_cons_succ]
          refine till_take 3 6 false (v := ?v3u7) (by kernel_rfl) (by kernel_rfl) (by kernel_rfl) (by kernel_rfl) (by kernel_rfl) (fun _ _ _ h => h) ?hw3u7 s0 ?hy3u7 ?rest3u7
          case hw3u7 => (simp only [List.getElem?_toArray, List.getElem?_cons_zero, List.getElem?_cons_succ, Option.elim]; rfl)
          case hy3u7 => (simp only [List.getElem?_toArray, List.getElem?_cons_zero, List.getElem?_cons_succ, Option.elim]; intro wx _; go_simp; with_reducible rfl)
          simp only [dstOf, List.getElem?_toArray, List.getElem?_cons_zero, List.getElem?_cons_succ, Option.bind, Act.put, List.setIfInBounds_toArray, List.set_cons_zero, List.set_cons_succ]
          refine till_take 4 6 false (v := ?v4u7) (by kernel_rfl) (by kernel_rfl) (by kernel_rfl) (by kernel_rfl) (by kernel_rfl) (fun _ _ _ h => h) ?hw4u7 s0 ?hy4u7 ?rest4u7
          case hw4u7 => (simp only [List.getElem?_toArray, List.getElem?_cons_zero, List.getElem?_cons_succ, Option.elim]; rfl)
          case hy4u7 => (simp only [List.getElem?_toArray, List.getElem?_cons_zero, List.getElem?_cons_succ, Option.elim]; intro wx _; go_simp; with_reducible rfl)
          simp only [dstOf, List.getElem?_toArray, List.getElem?_cons_zero, List.getElem?_cons_succ, Option.bind, Act.put, List.setIfInBounds_toArray, List.set_cons_zero, List.set_cons_succ]
          refine till_take 5 6 false (v := ?v5u7) (by kernel_rfl) (by kernel_rfl) (by kernel_rfl) (by kernel_rfl) (by kernel_rfl) (fun _ _ _ h => h) ?hw5u7 s0 ?hy5u7 ?rest5u7
          case hw5u7 => (simp only [List.getElem?_toArray, List.getElem?_cons_zero, List.getElem?_cons_succ, Option.elim]; rfl)
          case hy5u7 => (simp only [List.getElem?_toArray, List.getElem?_cons_zero, List.getElem?_cons_succ, Option.elim]; intro wx _; go_simp; with_reducible rfl)
          simp only [dstOf, List.getElem?_toArray, List.getElem?_cons_zero, List.getElem?_cons_succ, Option.bind, Act.put, List.setIfInBounds_toArray, List.set_cons_zero, List.set_cons_succ]
          refine till_take 6 6 false (v := ?v6u7) (by kernel_rfl) (by kernel_rfl) (by kernel_rfl) (by kernel_rfl) (by kernel_rfl) (fun _ _ _ h => h) ?hw6u7 s0 ?hy6u7 ?rest6u7
          case hw6u7 => (simp only [List.getElem?_toArray, List.getElem?_cons_zero, List.getElem?_cons_succ, Option.elim]; rfl)
          case hy6u7 => (simp only [List.getElem?_toArray, List.getElem?_cons_zero, List.getElem?_cons_succ, Option.elim]; intro wx _; go_simp; with_reducible rfl)
          simp only [dstOf, List.getElem?_toArray, List.getElem?_cons_zero, List.getElem?_cons_succ, Option.bind, Act.put, List.setIfInBounds_toArray, List.set_cons_zero, List.set_cons_succ]
          refine till_take 7 6 false (v := ?v7u7) (by kernel_rfl) (by kernel_rfl) (by kernel_rfl) (by kernel_rfl) (by kernel_rfl) (fun _ _ _ h => h) ?hw7u7 s0 ?hy7u7 ?rest7u7
          case hw7u7 => (simp only [List.getElem?_toArray, List.getElem?_cons_zero, List.getElem?_cons_succ, Option.elim]; rfl)
          case hy7u7 => (simp only [List.getElem?_toArray, List.getElem?_cons_zero, List.getElem?_cons_succ, Option.elim]; intro wx _; go_simp; with_reducible rfl)
          simp only [dstOf, List.getElem?_toArray, List.getElem?_cons_zero, List.getElem?_cons_succ, Option.bind, Act.put, List.setIfInBounds_toArray, List.set_cons_zero, List.set_cons_succ]
          refine till_take 9 6 false (v := ?v9u7) (by kernel_rfl) (by kernel_rfl) (by kernel_rfl) (by kernel_rfl) (by kernel_rfl) (fun _ _ _ h => h) ?hw9u7 s0 ?hy9u7 ?rest9u7
          case hw9u7 => (simp only [List.getElem?_toArray, List.getElem?_cons_zero, List.getElem?_cons_succ, Option.elim]; rfl)
          case hy9u7 => (simp only [List.getElem?_toArray, List.getElem?_cons_zero, List.getElem?_cons_succ, Option.elim]; intro wx _; go_simp; with_reducible rfl)
          simp only [dstOf, List.getElem?_toArray, List.getElem?_cons_zero, List.getElem?_cons_succ, Option.bind, Act.put, List.setIfInBounds_toArray, List.set_cons_zero, List.set_cons_succ]
          refine till_take 10 6 false (v := ?v10u7) (by kernel_rfl) (by kernel_rfl) (by kernel_rfl) (by kernel_rfl) (by kernel_rfl) (fun _ _ _ h => h) ?hw10u7 s0 ?hy10u7 ?rest10u7
          case hw10u7 => (simp only [List.getElem?_toArray, List.getElem?_cons_zero, List.getElem?_cons_succ, Option.elim]; rfl)
          case hy10u7 => (simp only [List.getElem?_toArray, List.getElem?_cons_zero, List.getElem?_cons_succ, Option.elim]; intro wx _; go_simp; with_reducible rfl)
          simp only [dstOf, List.getElem?_toArray, List.getElem?_cons_zero, List.getElem?_cons_succ, Option.bind, Act.put, List.setIfInBounds_toArray, List.set_cons_zero, List.set_cons_succ]
          refine till_take 11 6 false (v := ?v11u7) (by kernel_rfl) (by kernel_rfl) (by kernel_rfl) (by kernel_rfl) (by kernel_rfl) (fun _ _ _ h => h) ?hw11u7 s0 ?hy11u7 ?rest11u7
          case hw11u7 => (simp only [List.getElem?_toArray, List.getElem?_cons_zero, List.getElem?_cons_succ, Option.elim]; rfl)
          case hy11u7 => (simp only [List.getElem?_toArray, List.getElem?_cons_zero, List.getElem?_cons_succ, Option.elim]; intro wx _; go_simp; with_reducible rfl)
          simp only [dstOf, List.getElem?_toArray, List.getElem?_cons_zero, List.getElem?_cons_succ, Option.bind, Act.put, List.setIfInBounds_toArray, List.set_cons_zero, List.set_cons_succ]
          refine till_take 12 6 true (v := ?v12u7) (by kernel_rfl) (by kernel_rfl) (by kernel_rfl) (by kernel_rfl) (by kernel_rfl) (fun _ _ _ h => h) ?hw12u7 s0 ?hy12u7 ?rest12u7
          case hw12u7 => (simp only [List.getElem?_toArray, List.getElem?_cons_zero, List.getElem?_cons_succ, Option.elim]; rfl)
          case hy12u7 => (simp only [List.getElem?_toArray, List.getElem?_cons_zero, List.getElem?_cons_succ, Option.elim]; intro wx hx; have x1 := hx trivial; go_simp; with_reducible rfl)
          simp only [dstOf, List.getElem?_toArray, List.getElem?_cons_zero, List.getElem?_cons_succ, Option.bind, Act.put, List.setIfInBounds_toArray, List.set_cons_zero, List.set_cons_succ]
          refine till_before 8 (by kernel_rfl) (fun K hK => ?_)
          simp only [List.getElem?_toArray, List.getElem?_cons_zero, List.getElem?_cons_succ, Option.elim]
          rw [if_pos (by rfl)]
          go_simp
          go_at_call 25
          refine (o_all_raw (k := 2) MD.out rfl).mono ?_
          rintro e w11 ⟨v11, rfl, o11, n11, b11⟩
          have S11 := below_cell s0 b11
          have SAME := Lib.hid (same_one (l := J.l) (Nat.le_trans (HT.out.jour _ rfl).2 (by omega)) (texts_own o11) (HCK.out.fresh b11).texts)
          have M11 := Lib.hid (MD.out.fresh b11)
          clear o11 n11 b11
          refine hK.out _ _ S11 ?_
          clear hK K
          try simp only [Act.put, List.setIfInBounds_toArray, List.set_cons_zero, List.set_cons_succ]
          refine till_step 13 (by kernel_rfl) (by kernel_rfl) (fun K hK => ?_)
          simp only [List.getElem?_toArray, List.getElem?_cons_zero, List.getElem?_cons_succ, Option.elim]
          rw [if_pos (by rfl)]
          go_simp
          go_at_call 24
          refine SAME.out.mono ?_
          rintro e w12 ⟨rfl, b12⟩
          have M12 := Lib.hid (M11.out.fresh b12)
          clear b12 SAME M11
          refine hK.out _ _ ?_
          clear hK K
          try simp only [Act.put, List.setIfInBounds_toArray, List.set_cons_zero, List.set_cons_succ]
          refine till_late 14 (v := ?v14u7) (by kernel_rfl) (by kernel_rfl) (by kernel_rfl) (by kernel_rfl) (fun _ _ _ h => h) (by kernel_rfl) ?hw14u7 ?hy14u7 ?rest14u7
          case hw14u7 => (simp only [List.getElem?_toArray, List.getElem?_cons_zero, List.getElem?_cons_succ, Option.elim]; rfl)
          case hy14u7 => (simp only [List.getElem?_toArray, List.getElem?_cons_zero, List.getElem?_cons_succ, Option.elim]; intro wx; go_simp; with_reducible rfl)
          simp only [dstOf, List.getElem?_toArray, List.getElem?_cons_zero, List.getElem?_cons_succ, Option.bind, Act.put, List.setIfInBounds_toArray, List.set_cons_zero, List.set_cons_succ]
          refine till_late 15 (v := ?v15u7) (by kernel_rfl) (by kernel_rfl) (by kernel_rfl) (by kernel_rfl) (fun _ _ _ h => h) (by kernel_rfl) ?hw15u7 ?hy15u7 ?rest15u7
          case hw15u7 => (simp only [List.getElem?_toArray, List.getElem?_cons_zero, List.getElem?_cons_succ, Option.elim]; rfl)
          case hy15u7 => (simp only [List.getElem?_toArray, List.getElem?_cons_zero, List.getElem?_cons_succ, Option.elim]; intro wx; go_simp; with_reducible rfl)
          simp only [dstOf, List.getElem?_toArray, List.getElem?_cons_zero, List.getElem?_cons_succ, Option.bind, Act.put, List.setIfInBounds_toArray, List.set_cons_zero, List.set_cons_succ]
          refine till_end (by kernel_rfl) ?_ _
          go_wp2
          go_roundw
          case rel => exact ⟨k + 1, some (b, c, J), D, n, hk1, by go_num, rfl, rfl, Lib.hid (.yes b c _), HT, Lib.hid (M12.out.take 4)⟩
          case measure => simp [intOf]; omega
    · as_aux_lemma =>
        obtain rfl : k = xs.length := by omega
        have M4 := Lib.hid (tjobs_take HM.out)
        clear HM HS HJ
        go_wp2_with (go_at_call 22; refine (o_start (i := 0) M4.out rfl).mono ?_; rintro e w6 ⟨rfl, m⟩; refine Hid.out ?_)
        refine Lib.hid ?_
        have M6 := Lib.hid (show OMem w w6 [.disk d D.start, .rdisk r D] from m)
        clear m M4
        go_wp2_with (go_at_call 23; refine (or_start (i := 1) M6.out rfl).mono ?_; rintro e w7 ⟨rfl, m⟩; refine Hid.out ?_)
        refine Lib.hid ?_
        have M7 := Lib.hid (show OMem w w7 [.disk d D.start, .rdisk r D.start] from m)
        clear m M6
        obtain ⟨q, hq⟩ : ∃ q, D.start.size 3 = q := ⟨_, rfl⟩
        have hq2 : I64 ((q : Nat) : Int) := by
          have h1 := M7.out.ok (i := 0) rfl
          rw [← hq]
          unfold Dk.size
          split
          · have := h1.now (3 : Int).toNat
            exact ⟨by omega, by omega⟩
          · exact ⟨by decide, by decide⟩
        obtain ⟨⟨s, e2⟩, hrd⟩ : ∃ z, D.start.read 3 0 (q : Int) = z := ⟨_, rfl⟩
        have HQ := Lib.hid hq
        have HQ2 := Lib.hid hq2
        have HRD := Lib.hid hrd
        clear hq hq2 hrd
        go_wp2_with (go_at_call 27; refine (o_size1 (i := 0) M7.out rfl 3 ⟨by decide, by decide⟩ HQ.out).mono ?_; rintro e w8 ⟨rfl, rfl⟩; refine Hid.out ?_)
        refine Lib.hid ?_
        go_wp2_with (go_at_call 26; refine (o_read1 (i := 0) M7.out rfl 3 0 (q : Int) ⟨by decide, by decide⟩ I64.zero HQ2.out HRD.out).mono ?_; rintro e w8 ⟨rfl, m⟩; refine Hid.out ?_)
        refine Lib.hid ?_
        have hsz := or_size (i := 1) m rfl 3 ⟨by decide, by decide⟩
        rw [HQ.out] at hsz
        have HSZ := Lib.hid hsz
        clear m M7 hsz
        go_wp2_with (go_at_call 29; refine (HSZ.out).mono ?_; rintro e w9 ⟨rfl, m⟩; refine Hid.out ?_)
        refine Lib.hid ?_
        have hrd := or_read (i := 1) m rfl 3 0 (q : Int) ⟨by decide, by decide⟩
        rw [HRD.out] at hrd
        have HR2 := Lib.hid hrd
        clear m HSZ hrd
        go_wp2_with (go_at_call 28; refine HR2.out.mono ?_; rintro e w10 ⟨rfl, m⟩; have MZ := Lib.hid m; clear m)
        go_ret
        exact ⟨by first | rfl | simp, MZ.out.below⟩
theorem jtells_walk (a0 : Option Addr) (n0 cap : Nat) (xs : List Op1) (hn0 : xs.length = n0) (hm0 : n0 ≤ maxLen) (o0 : OArgs w a0 xs) (he : Env w) :
    Calls Tryz.prog 3 #[.slice a0 n0 cap] w fun e w' => e = .returned (.bool true) ∧ Below w.heap.size w w' := by
  subst hn0
  unfold maxLen at hm0
  cases h : fewO xs with
  | true => exact jtells_main cap o0 h he
  | false => exact jtells_out cap o0 (by omega) h he
end
end Go.Proofs.YtjbcgahdiolhhaaGreatDoor.D2
