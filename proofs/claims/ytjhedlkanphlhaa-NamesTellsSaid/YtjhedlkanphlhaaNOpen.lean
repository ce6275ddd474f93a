/- Package names: Open. -/
import Derived.Test.YtjhedlkanphlhaaNOps
namespace Go.Proofs.Ytjhedlkanphlhaa
open Go.RowKit Go.Maps Go.ChangeMaps Go.MapKept
open Np
attribute [local go_sem ↓] Go.wp_at_zero Go.wp_at_succ

section
variable {w0 w : World} {os : List Ob}
/-- What Open returns: no list and an error, or a list and OK. -/
def OpenPost (w0 : World) (os : List Ob) (l : List ByteArray) (e : Ending) (w' : World) : Prop :=
  (((opened l).2 = none ∧ e = .returned (.tuple #[.pointer none, .int .i64 (opened l).1]) ∧ OMem w0 w' os) ∨
   ((opened l).2 = some l ∧ ∃ b, e = .returned (.tuple #[.pointer (some ⟨b, 0, none⟩), .int .i64 (opened l).1]) ∧ OMem w0 w' (os ++ [.names b l])))
theorem of_take {l : List ByteArray} {k : Nat} (hk : k < l.length) (ht : AllText l) :
    (l[k] ∈ l.take k ∧ ∃ p : Nat, p < k ∧ of (l.take k) l[k] = ((p : Int), l.take k)) ∨ (l[k] ∉ l.take k ∧ of (l.take k) l[k] = ((k : Int), l.take (k + 1))) := by
  have hs := ht _ (List.getElem_mem hk)
  have hl : (l.take k).length = k := by rw [List.length_take]; omega
  by_cases hm : l[k] ∈ l.take k
  · refine .inl ⟨hm, pos (l.take k) l[k], ?_, of_known hs hm⟩
    have := pos_mem.1 hm
    omega
  · refine .inr ⟨hm, ?_⟩
    rw [of_new hs hm, hl, List.take_succ_eq_append_getElem hk]
/-- What a new memory's one list is made of is new. -/
theorem OMem.single {w w' : World} {b : Nat} {T : List ByteArray} (h : OMem w w' [.names b T]) : ∃ v mb, NmC w' b T v mb ∧ w.heap.size ≤ b ∧ w.heap.size ≤ mb ∧ ∀ k, v.ownBlock = some k → w.heap.size ≤ k := by
  obtain ⟨lab, h⟩ := h
  obtain ⟨v, mb, g⟩ := h.at_ 0 _ rfl
  have key : ∀ x, lab x ≠ 0 → w.heap.size ≤ x := fun x hx => by
    rcases Nat.lt_or_ge x w.heap.size with q | q
    · exact absurd (h.und.labs x q) hx
    · exact q
  exact ⟨v, mb, ⟨g.blk, g.row, g.map, fun e => by have := g.lb; have := g.lm; subst e; omega, fun e => by have := g.lb; have := g.lr b e; omega, fun e => by have := g.lm; have := g.lr mb e; omega⟩,
    key b (by have := g.lb; omega), key mb (by have := g.lm; omega), fun k hk => key k (by have := g.lr k hk; omega)⟩
theorem OMem.join {w' : World} {b : Nat} {T : List ByteArray} (h : OMem w0 w os) (k : OMem w w' [.names b T]) : OMem w0 w' (os ++ [.names b T]) := by
  obtain ⟨v, mb, hc, h1, h2, h3⟩ := k.single
  exact h.pushNames k.below hc.blk hc.row hc.map h1 h2 h3 hc.bm hc.br hc.mr
set_option maxHeartbeats 4000000 in
set_option maxRecDepth 100000 in
theorem n_open (h : OMem w0 w os) (v : Value) (l : List ByteArray) (hv : TextsAt w v l) (hn : l.length ≤ 100000) : Calls Try.prog 9 #[v] w (OpenPost w0 os l) := by
  obtain ⟨a, cap, rfl, hc⟩ := hv.form
  have HV := Lib.hid hv
  have HC := Lib.hid hc
  have H := Lib.hid h
  clear h hc hv
  go_enter Try.func9, Try.ntmps9
  go_wp2
  go_loopw [11] (fun i wr => ∃ k : Nat, k ≤ l.length ∧ i = .int .i64 k ∧ (∀ s ∈ l.take k, s.size ≤ 65536) ∧ wr = w) (fun i _ => l.length - (intOf i).toNat)
  case atStart => exact ⟨0, Nat.zero_le _, rfl, by simp, rfl⟩
  case round =>
    obtain ⟨k, hk, rfl, hs, rfl⟩ := hrel
    obtain ⟨w, hw⟩ : ∃ w, w = wr := ⟨_, rfl⟩
    subst hw
    have HS := Lib.hid hs
    clear hs
    by_cases hlt : k < l.length
    · obtain ⟨g, off, rfl, hcell⟩ := HC.out k hlt
      have HI := Lib.hid (isText_any l[k])
      by_cases hz : l[k].size ≤ 65536
      · have hd : decide (l[k].size ≤ 65536) = true := decide_eq_true hz
        rw [hd] at HI
        clear hd
        go_wp2_with (go_at_call 24; refine (HI.out _).mono ?_; rintro e w1 ⟨rfl, rfl⟩)
        go_roundw
        case rel =>
          refine ⟨k + 1, by omega, by go_num, fun s hs => ?_, by trivial⟩
          rw [List.take_succ_eq_append_getElem hlt] at hs
          rcases List.mem_append.1 hs with q | q
          · exact HS.out s q
          · simp at q; subst q; exact hz
        case measure => simp [intOf]; omega
      · have hd : decide (l[k].size ≤ 65536) = false := decide_eq_false hz
        rw [hd] at HI
        have HR := Lib.hid (opened_arg hlt (by omega))
        clear hd
        go_wp2_with (go_at_call 24; refine (HI.out _).mono ?_; rintro e w1 ⟨rfl, rfl⟩)
        go_ret2
        exact .inl (by rw [HR.out]; exact ⟨rfl, rfl, H.out⟩)
    · obtain rfl : k = l.length := by omega
      have HT := Lib.hid (show AllText l from fun s hs => HS.out s (by rw [List.take_length]; exact hs))
      clear HS
      go_wp2_with (go_at_call 12; refine (n_new (OMem.start _)).mono ?_; rintro e w1 ⟨b, rfl, m1⟩; refine Hid.out ?_)
      refine Lib.hid ?_
      have M1 := Lib.hid m1
      have HW := Lib.hid (HV.out.keep m1.below)
      clear m1
      go_wp2
      go_loopw [22] (fun i wr => ∃ k : Nat, k ≤ l.length ∧ i = .int .i64 k ∧ (l.take k).Nodup ∧ OMem w wr [.names b (l.take k)]) (fun i _ => l.length - (intOf i).toNat)
      case atStart => exact ⟨0, Nat.zero_le _, rfl, by simp, M1.out⟩
      case round =>
        obtain ⟨k, hk, rfl, hd, hm⟩ := hrel
        have HD := Lib.hid hd
        have M := Lib.hid hm
        clear hd hm M1
        by_cases hlt : k < l.length
        · obtain ⟨a', cap', hva, hcell⟩ := (HV.out.keep M.out.below).form
          obtain ⟨g, off, hg1, hg2⟩ := hcell k hlt
          cases hva
          cases hg1
          have hl : (l.take k).length ≤ 100000 := by rw [List.length_take]; omega
          have HO := Lib.hid (n_of M.out (i := 0) rfl l[k] hl)
          clear hcell hl
          rcases of_take hlt HT.out with ⟨hmem, p, hp, hof⟩ | ⟨hmem, hof⟩
          · rw [hof] at HO
            have hne : ¬ ((p : Int) = (k : Int)) := by omega
            have HR := Lib.hid (opened_twice HT.out (not_nodup hlt hmem))
            clear hof hmem
            go_wp2_with (go_at_call 14; refine HO.out.mono ?_; rintro e w2 ⟨rfl, m2⟩; refine Hid.out ?_)
            refine Lib.hid ?_
            have M2 := Lib.hid m2
            clear m2 hg2
            go_wp2
            go_ret2
            exact .inl (by rw [HR.out]; exact ⟨rfl, rfl, H.out.fresh M2.out.below⟩)
          · rw [hof] at HO
            have HM := Lib.hid (take_nodup hlt HD.out hmem)
            clear hof hmem
            go_wp2_with (go_at_call 14; refine HO.out.mono ?_; rintro e w2 ⟨rfl, m2⟩; refine Hid.out ?_)
            refine Lib.hid ?_
            have M2 := Lib.hid m2
            clear m2 hg2
            go_wp2
            go_roundw
            case rel => exact ⟨k + 1, by omega, by go_num, HM.out, M2.out⟩
            case measure => simp [intOf]; omega
        · obtain rfl : k = l.length := by omega
          have hd := HD.out
          have hm := M.out
          rw [List.take_length] at hd hm
          have HR := Lib.hid (opened_ok HT.out hd)
          have M2 := Lib.hid hm
          clear hd hm HD M
          go_wp2
          go_ret2
          exact .inr (by rw [HR.out]; exact ⟨rfl, _, rfl, H.out.join M2.out⟩)
end
end Go.Proofs.Ytjhedlkanphlhaa
