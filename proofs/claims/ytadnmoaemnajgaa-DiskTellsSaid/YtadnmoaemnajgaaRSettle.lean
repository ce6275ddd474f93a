/- The reference's settle. -/
import Derived.Test.YtadnmoaemnajgaaRSurv
namespace Go.Proofs.Ytadnmoaemnajgaa
open Go.RowKit Go.Maps Go.ChangeMaps Go.MapKept
open Dp
attribute [local go_sem ↓] Go.wp_at_zero Go.wp_at_succ

/-- A string becomes a file and its durable part. -/
def Rf.settle (R : Rf) (f : Nat) (s : List UInt8) : Rf := { R.set ⟨f, s, s⟩ with queue := dropsF f R.queue }
theorem Rf.Ok.settle {R : Rf} (h : R.Ok) {f : Nat} {s : List UInt8} (h1 : f < 16) (h2 : s.length ≤ 16777216) : (R.settle f s).Ok :=
  (h.set (x := ⟨f, s, s⟩) h1 h2 h2).queue' (q := dropsF f R.queue) (h.queue.filter _) (fun p hp => h.few p (List.mem_filter.1 hp).1)
section
variable {w : World} {lab : Nat → Nat} {id r : Nat} {R : Rf} {L : RLoc}
set_option maxHeartbeats 2000000 in
set_option maxRecDepth 100000 in
theorem rsettle_any (h : RIn w lab id r R L) (f : Nat) (s : List UInt8) (h1 : f < 16) (h2 : s.length ≤ 16777216) :
    Calls Try.prog 50 #[.pointer (some ⟨r, 0, none⟩), .int .i64 (f : Int), .string (bs s)] w (RPost lab id r (.tuple #[]) (R.settle f s) w) := by
  have HS := Lib.hid (rset_any h ⟨f, s, s⟩ h1 h2 h2)
  have HOK := Lib.hid (h.ok.settle h1 h2)
  have hql := queue_len h.ok.queue h.ok.few
  clear h
  go_enter Try.func50, Try.ntmps50
  go_wp2_with (go_at_call 56; refine HS.out.mono ?_; rintro e wa ⟨rfl, laba, ⟨La, ha⟩, ka⟩; refine Hid.out ?_)
  refine Lib.hid ?_
  have H := Lib.hid ha
  have KA := Lib.hid ka
  obtain ⟨fa, fc, hfv⟩ := own_form ha.queue
  have HFV := Lib.hid hfv
  clear ha ka hfv HS
  go_wp2
  go_loopw [6, 7] (fun v i wr => ∃ k : Nat, k ≤ R.queue.length ∧ i = .int .i64 (k : Int) ∧ Hid (Below wa.heap.size wa wr) ∧ Hid (wr.ownsRow 0 79 2 v (dropsF f (R.queue.take k)).length (secVs (dropsF f (R.queue.take k)))) ∧ Hid (∀ j, v.ownBlock = some j → wa.heap.size ≤ j)) (fun _ i _ => R.queue.length - (intOf i).toNat)
  case atStart => exact ⟨0, Nat.zero_le _, rfl, Lib.hid (Below.refl _ _), Lib.hid (World.ownsRow_nil _ _ _ _), Lib.hid fun j hj => by cases hj⟩
  case round =>
    obtain ⟨k, hk, rfl, HE, HO, HJ⟩ := hrel
    have hwr := HE.out.size
    have hr := H.out.fresh HE.out
    have c0 := hr.c 1
    simp only [List.getElem?_toArray, List.getElem?_cons_zero, List.getElem?_cons_succ] at c0
    rw [HFV.out] at c0
    have hqe : (R.set ⟨f, s, s⟩).queue = R.queue := rfl
    rw [hqe] at c0
    by_cases hlt : k < R.queue.length
    · obtain ⟨y, hy⟩ : ∃ y, R.queue[k]? = some y := ⟨_, List.getElem?_eq_getElem hlt⟩
      obtain ⟨g, cap, hv, d0, d1⟩ := q_cell hr hy
      have hv2 := HFV.out.symm.trans hv
      simp only [Value.slice.injEq, true_and] at hv2
      obtain ⟨rfl, rfl⟩ := hv2
      have HY := Lib.hid hy
      have HDT := Lib.hid (dropsF_take (f := f) hy)
      clear hy hr hv
      have hol : (dropsF f (R.queue.take k)).length ≤ 4194304 := by have := List.length_filter_le (fun p => decide (p.1 ≠ f)) (R.queue.take k); have := List.length_take_le k R.queue; unfold dropsF; omega
      obtain ⟨oa, oc, rfl⟩ := own_form HO.out
      by_cases hne : y.1 = f
      · have hne' : ((y.1 : Int) == (f : Int)) = true := by rw [beq_iff_eq]; omega
        have HN := Lib.hid hne
        clear hne hqe
        go_wp2
        go_roundw
        case rel => exact ⟨k + 1, by omega, by go_num, HE, Lib.hid (by rw [HDT.out, if_pos HN.out, List.append_nil]; exact HO.out), HJ⟩
        case measure => simp [intOf]; omega
      · have hne' : ((y.1 : Int) == (f : Int)) = false := by rw [beq_eq_false_iff_ne]; omega
        have HN := Lib.hid hne
        have hA := below_alloc wr (.cells #[.int .i64 (y.1 : Int), .int .i64 (y.2 : Int)] 79)
        obtain ⟨v', w', r1, r2, r3, r4⟩ := push_sec (wr.alloc (.cells #[.int .i64 (y.1 : Int), .int .i64 (y.2 : Int)] 79)) _ _ (HO.out.alloc _) hol y (a := wr.heap.size) (alloc_new_cell wr _ _ 0) (alloc_new_cell wr _ _ 1) 62
        have HRR := Lib.hid r1
        have hbA := HE.out.trans (hA.mono hwr)
        have HB3 := Lib.hid (grown_below hbA r3 HJ.out)
        have HO3 := Lib.hid r2
        have HJ3 := Lib.hid (show ∀ j, v'.ownBlock = some j → wa.heap.size ≤ j from fun j hj => by
          rcases r4 with h | h
          · exact HJ.out j (h.symm.trans hj)
          · have h9 := h.symm.trans hj
            simp only [World.size_alloc, Option.some.injEq] at h9
            omega)
        clear r1 r2 r3 r4 hA hbA hne hqe
        go_wp2_with (at_builtin; refine wpList_append_run rfl _ _ _ _ rfl _ _ rfl rfl _ _ HRR.out ?_)
        go_wp2
        go_roundw
        case rel => exact ⟨k + 1, by omega, by go_num, HB3, Lib.hid (by rw [HDT.out, if_neg HN.out]; exact HO3.out), HJ3⟩
        case measure => simp [intOf]; omega
    · obtain rfl : k = R.queue.length := by omega
      have hO := HO.out
      rw [List.take_length] at hO
      obtain ⟨oa, oc, rfl⟩ := own_form hO
      have f0 := hr.fz 1
      have HNW := Lib.hid (H.out.newQueue (R' := R.settle f s) HE.out HJ.out HOK.out rfl rfl rfl rfl rfl hO)
      clear hO hr hqe
      go_wp2
      go_end0
      obtain ⟨lab', n1, n2⟩ := HNW.out
      exact ⟨rfl, lab', n1, KA.out.trans n2⟩
end
end Go.Proofs.Ytadnmoaemnajgaa
