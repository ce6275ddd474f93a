/- The walk of RateBounds. -/
import Derived.Test.YtmlogoaicjdjiaaRParts
import Derived.Test.YtmlogoaicjdjiaaObj7
namespace Go.Proofs.Ytmlogoaicjdjiaa
open Go.RowKit Go.Maps Go.ChangeMaps Go.MapKept
open Rt
attribute [local go_sem ↓] Go.wp_at_zero Go.wp_at_succ

/-- A slice of wants that is read. -/
def WsAt (w : World) (v : Value) (l : List (Int × Int)) : Prop := ∃ a cap, v = .slice a l.length cap ∧ (l.length ≤ cap ∧ (a = none → cap = 0)) ∧ ∀ (k : Nat) (p : Int × Int), l[k]? = some p → (0 ≤ p.1 ∧ p.1 ≤ 65535) ∧ I64 p.2 ∧ ∃ b off, a = some ⟨b, off, none⟩ ∧
  w.cell? ⟨b, off + k * 2, none⟩ = some (.int .u16 p.1) ∧ w.cell? ⟨b, off + k * 2 + 1, none⟩ = some (.int .i64 p.2)
theorem WsAt.keep {w w' : World} {v : Value} {l : List (Int × Int)} (h : WsAt w v l) (hb : Below w.heap.size w w') : WsAt w' v l := by
  obtain ⟨a, cap, hv, hl, hc⟩ := h
  refine ⟨a, cap, hv, hl, fun k o hk => ?_⟩
  obtain ⟨h1, h2, b, off, h3, c0, c1⟩ := hc k o hk
  exact ⟨h1, h2, b, off, h3, below_cell c0 hb, below_cell c1 hb⟩
theorem WsAt.slice {w : World} {v : Value} {l : List (Int × Int)} (h : WsAt w v l) : ∃ a c, v = .slice a l.length c := by obtain ⟨a, c, hv, _⟩ := h; exact ⟨a, c, hv⟩
theorem WsAt.form {w : World} {v : Value} {l : List (Int × Int)} (h : WsAt w v l) {k : Nat} {p : Int × Int} (hk : l[k]? = some p) : ∃ b off cap, v = .slice (some ⟨b, off, none⟩) l.length cap ∧ l.length ≤ cap ∧ (0 ≤ p.1 ∧ p.1 ≤ 65535) ∧ I64 p.2 ∧
    w.cell? ⟨b, off + k * 2, none⟩ = some (.int .u16 p.1) ∧ w.cell? ⟨b, off + k * 2 + 1, none⟩ = some (.int .i64 p.2) := by
  obtain ⟨a, cap, hv, hl, hc⟩ := h
  obtain ⟨h1, h2, b, off, rfl, c0, c1⟩ := hc k p hk
  exact ⟨b, off, cap, hv, hl.1, h1, h2, c0, c1⟩
/-- What goes on behind a want that is taken. -/
theorem bound_next {L x st t r b n Z : Int} (h : right x st r b = true) (hs : st ≤ t) (hz : Z + x ≤ L + st * r) : Z + n + (places x st r b t - n) ≤ L + t * r := by
  have h2 := places_in h hs
  have e : (t - st) * r = t * r - st * r := Int.sub_mul t st r
  omega
theorem big_mul {t r : Int} (ht : 0 ≤ t ∧ t ≤ 3932100) (hr : 0 ≤ r ∧ r ≤ 1099511627776) : 0 ≤ t * r ∧ t * r ≤ 4323389691577649600 := by
  have := mul_le (a := t) (b := r) (c := 3932100) (d := 1099511627776) ht.1 ht.2 hr.1 hr.2
  exact ⟨mul_nn ht.1 hr.1, by omega⟩
set_option maxHeartbeats 8000000 in
set_option maxRecDepth 100000 in
theorem bounds_walk (A : RApi) {w : World} {v : Value} {L r b : Int} {l : List (Int × Int)} (hL : I64 L) (hr : I64 r) (hb : I64 b) (hv : WsAt w v l) :
    Calls Try.prog 4 #[.int .i64 L, .int .i64 r, .int .i64 b, v] w fun e w' => e = .returned (.bool true) ∧ Below w.heap.size w w' := by
  have h0 : I64 0 := by unfold I64; omega
  have HH := Lib.hid (And.intro hL (And.intro h0 (And.intro hr hb)))
  have HV := Lib.hid hv
  obtain ⟨va, vc, rfl⟩ := hv.slice
  clear hL hr hb h0 hv
  by_cases h1 : 60 < l.length
  · have h1' : (60 : Int) < (l.length : Int) := by omega
    go_enter Try.func4, Try.ntmps4
    go_wp2_with (go_at_call 7; refine (small_any A _).mono ?_; rintro e w1 ⟨rfl, m1⟩; refine Hid.out ?_)
    refine Lib.hid ?_
    have B := Lib.hid m1
    have M := Lib.hid ((OMem.start w).fresh m1)
    clear m1
    obtain ⟨c0, c1⟩ := buck_new w1 (L) (0)
    have ba := (Below.refl w1.heap.size w1).alloc (Nat.le_refl _) (.cells #[.int .i64 (L), .int .i64 (0)] 24)
    have B := Lib.hid (B.out.trans (ba.mono B.out.size))
    clear ba
    go_wp2
    go_ret
    exact ⟨rfl, B.out⟩
  · have h1' : ¬ (60 : Int) < (l.length : Int) := by omega
    have H1 := fun w => A.right_eq (w := w) (L := L) (S := 0) (r := r) (b := b) rfl HH.out.1 HH.out.2.1 HH.out.2.2.1 HH.out.2.2.2
    cases hrt : right L 0 r b with
    | false =>
      rw [hrt] at H1
      have H1 := Lib.hid H1
      clear hrt
      go_enter Try.func4, Try.ntmps4
      go_wp2_with (go_at_call 7; refine (small_any A _).mono ?_; rintro e w1 ⟨rfl, m1⟩; refine Hid.out ?_)
      refine Lib.hid ?_
      have B := Lib.hid m1
      have M := Lib.hid ((OMem.start w).fresh m1)
      clear m1
      obtain ⟨c0, c1⟩ := buck_new w1 (L) (0)
      have ba := (Below.refl w1.heap.size w1).alloc (Nat.le_refl _) (.cells #[.int .i64 (L), .int .i64 (0)] 24)
      have B := Lib.hid (B.out.trans (ba.mono B.out.size))
      clear ba
      go_wp2_with (go_at_call 14; refine (H1.out _).mono ?_; rintro e w2 ⟨rfl, bb⟩; refine Hid.out ?_)
      refine Lib.hid ?_
      have c0 := below_cell c0 bb
      have c1 := below_cell c1 bb
      have B := Lib.hid (B.out.trans (bb.mono B.out.size))
      clear bb
      go_wp2
      go_ret
      exact ⟨rfl, B.out⟩
    | true =>
      rw [hrt] at H1
      have H1 := Lib.hid H1
      have HR := Lib.hid hrt
      have hin := right_iff.1 hrt
      clear hrt
      go_enter Try.func4, Try.ntmps4
      go_wp2_with (go_at_call 7; refine (small_any A _).mono ?_; rintro e w1 ⟨rfl, m1⟩; refine Hid.out ?_)
      refine Lib.hid ?_
      have B := Lib.hid m1
      have M := Lib.hid ((OMem.start w).fresh m1)
      clear m1
      obtain ⟨c0, c1⟩ := buck_new w1 L 0
      have M := Lib.hid (M.out.raw (.cells #[.int .i64 L, .int .i64 0] 24))
      go_wp2_with (go_at_call 14; refine (H1.out _).mono ?_; rintro e w2 ⟨rfl, bb⟩; refine Hid.out ?_)
      refine Lib.hid ?_
      have M := Lib.hid (show OMem w w2 [.raw w1.heap.size (.cells #[.int .i64 L, .int .i64 0] 24 (0, 0))] from M.out.fresh bb)
      clear c0 c1 bb
      go_wp2
      go_loopw [11, 12, 13] (fun a z i wr => ∃ (k : Nat) (T Z x st : Int), k ≤ l.length ∧ i = .int .i64 k ∧ a = .int .i64 T ∧ z = .int .i64 Z ∧ (0 ≤ T ∧ T ≤ 65535 * k) ∧ Hid (right x st r b = true) ∧ st ≤ T ∧ Hid (Z + x ≤ L + st * r) ∧ 0 ≤ Z ∧ OMem w wr [.raw w1.heap.size (.cells #[.int .i64 x, .int .i64 st] 24 (0, 0))]) (fun _ _ i _ => l.length - (RowKit.intOf i).toNat)
      case atStart => exact ⟨0, 0, 0, L, 0, Nat.zero_le _, rfl, rfl, rfl, by omega, HR, Int.le_refl _, Lib.hid (by omega), Int.le_refl _, M.out⟩
      case round =>
        obtain ⟨k, T, Z, x, st, hk, rfl, rfl, rfl, hT, HR3, hst, HZ, hz0, mm⟩ := hrel
        by_cases hlt : k < l.length
        · obtain ⟨⟨s, n⟩, hp⟩ : ∃ p, l[k]? = some p := ⟨_, List.getElem?_eq_getElem hlt⟩
          obtain ⟨vb, vo, vcap, e1, hcap, hs, hn, c2, c3⟩ := (HV.out.keep mm.below).form hp
          cases e1
          simp only at hs hn c2 c3
          have hw := mm.raw_at (i := 0) rfl
          have c0 : wr.cell? ⟨w1.heap.size, 0, none⟩ = some (.int .i64 x) := by rw [Lib.cell_of_heap hw]; rfl
          have c1 : wr.cell? ⟨w1.heap.size, 1, none⟩ = some (.int .i64 st) := by rw [Lib.cell_of_heap hw]; rfl
          have M := Lib.hid mm
          have hin3 := right_iff.1 HR3.out
          have hTs : 0 ≤ T + s ∧ T + s ≤ 3932100 := by omega
          have hbig := big_mul hTs (show 0 ≤ r ∧ r ≤ 1099511627776 by omega)
          have iT : I64 (T + s) := by unfold I64; omega
          have ix : I64 x := by unfold I64; omega
          have ist : I64 st := by unfold I64; omega
          have hfr := free_ok HR3.out (show T + s ≤ 1073741824 by omega) (show st ≤ T + s by omega)
          have hpl := places_in HR3.out (show st ≤ T + s by omega)
          have H3 := Lib.hid (fun w => A.free_eq (w := w) hfr ix ist HH.out.2.2.1 HH.out.2.2.2 iT)
          by_cases hn0 : n < 0
          · have H2 := Lib.hid (fun w => A.take_eq (w := w) (take_neg (L := x) (S := st) (r := r) (b := b) (t := T + s) hn0) ix ist HH.out.2.2.1 HH.out.2.2.2 iT hn)
            obtain ⟨p, hpp⟩ : ∃ p, places x st r b (T + s) = p := ⟨_, rfl⟩
            rw [hpp] at hpl H3
            clear hpp hfr hw mm hp
            have c0 := c0
            have c1 := c1
            go_wp2_with (go_at_call 8; refine (H2.out _).mono ?_; rintro e w3 ⟨rfl, bb⟩; refine Hid.out ?_)
            refine Lib.hid ?_
            have c0 := below_cell c0 bb
            have c1 := below_cell c1 bb
            obtain ⟨d0, d1⟩ := buck_new w3 (x) (st)
            have ba := (Below.refl w3.heap.size w3).alloc (Nat.le_refl _) (.cells #[.int .i64 (x), .int .i64 (st)] 24)
            have bc := bb.trans (ba.mono bb.size)
            have c0 := below_cell c0 ba
            have c1 := below_cell c1 ba
            have BC := Lib.hid bc
            clear bb ba bc
            go_wp2_with (go_at_call 10; refine (H3.out _).mono ?_; rintro e w4 ⟨rfl, bb⟩; refine Hid.out ?_)
            refine Lib.hid ?_
            have c0 := below_cell c0 bb
            have c1 := below_cell c1 bb
            have d0 := below_cell d0 bb
            have d1 := below_cell d1 bb
            have BC := Lib.hid (BC.out.trans (bb.mono BC.out.size))
            clear bb
            have M4 := Lib.hid (M.out.fresh BC.out)
            go_wp2
            go_roundw
            case rel => exact ⟨k + 1, T + s, Z, x, st, by omega, by go_num, by go_num, rfl, by omega, HR3, by omega, HZ, by omega, M4.out⟩
            case measure => (simp [RowKit.intOf]; try omega)
          · by_cases hnp : places x st r b (T + s) < n
            · have H2 := Lib.hid (fun w => A.take_eq (w := w) (take_full hn0 hfr hnp) ix ist HH.out.2.2.1 HH.out.2.2.2 iT hn)
              obtain ⟨p, hpp⟩ : ∃ p, places x st r b (T + s) = p := ⟨_, rfl⟩
              rw [hpp] at hpl H3 hnp
              clear hpp hfr hw mm hp
              have c0 := c0
              have c1 := c1
              go_wp2_with (go_at_call 8; refine (H2.out _).mono ?_; rintro e w3 ⟨rfl, bb⟩; refine Hid.out ?_)
              refine Lib.hid ?_
              have c0 := below_cell c0 bb
              have c1 := below_cell c1 bb
              obtain ⟨d0, d1⟩ := buck_new w3 (x) (st)
              have ba := (Below.refl w3.heap.size w3).alloc (Nat.le_refl _) (.cells #[.int .i64 (x), .int .i64 (st)] 24)
              have bc := bb.trans (ba.mono bb.size)
              have c0 := below_cell c0 ba
              have c1 := below_cell c1 ba
              have BC := Lib.hid bc
              clear bb ba bc
              go_wp2_with (go_at_call 10; refine (H3.out _).mono ?_; rintro e w4 ⟨rfl, bb⟩; refine Hid.out ?_)
              refine Lib.hid ?_
              have c0 := below_cell c0 bb
              have c1 := below_cell c1 bb
              have d0 := below_cell d0 bb
              have d1 := below_cell d1 bb
              have BC := Lib.hid (BC.out.trans (bb.mono BC.out.size))
              clear bb
              have M4 := Lib.hid (M.out.fresh BC.out)
              go_wp2
              go_roundw
              case rel => exact ⟨k + 1, T + s, Z, x, st, by omega, by go_num, by go_num, rfl, by omega, HR3, by omega, HZ, by omega, M4.out⟩
              case measure => (simp [RowKit.intOf]; try omega)
            · have H2 := fun w => A.take_eq (w := w) (take_ok hn0 hfr (by omega)) ix ist HH.out.2.2.1 HH.out.2.2.2 iT hn
              have hrn := right_after HR3.out (show st ≤ T + s by omega) (by omega) (show 0 ≤ n by omega) (show n ≤ places x st r b (T + s) by omega)
              have hbn := bound_next (n := n) HR3.out (show st ≤ T + s by omega) HZ.out
              obtain ⟨p, hpp⟩ : ∃ p, places x st r b (T + s) = p := ⟨_, rfl⟩
              rw [hpp] at hpl H3 hnp hrn hbn H2
              have H2 := Lib.hid H2
              have H4 := Lib.hid (fun w => A.right_eq (w := w) hrn (show I64 (p - n) by unfold I64; omega) iT HH.out.2.2.1 HH.out.2.2.2)
              have HRN := Lib.hid hrn
              have HBN := Lib.hid hbn
              have hsum : Z + n ≤ L + (T + s) * r := by omega
              clear hpp hfr hw mm hp hrn
              have c0 := c0
              have c1 := c1
              go_wp2_with (go_at_call 8; refine (H2.out _).mono ?_; rintro e w3 ⟨rfl, bb⟩; refine Hid.out ?_)
              refine Lib.hid ?_
              have c0 := below_cell c0 bb
              have c1 := below_cell c1 bb
              obtain ⟨d0, d1⟩ := buck_new w3 (p - n) (T + s)
              have ba := (Below.refl w3.heap.size w3).alloc (Nat.le_refl _) (.cells #[.int .i64 (p - n), .int .i64 (T + s)] 24)
              have bc := bb.trans (ba.mono bb.size)
              have c0 := below_cell c0 ba
              have c1 := below_cell c1 ba
              have BC := Lib.hid bc
              clear bb ba bc
              go_wp2_with (go_at_call 10; refine (H3.out _).mono ?_; rintro e w4 ⟨rfl, bb⟩; refine Hid.out ?_)
              refine Lib.hid ?_
              have c0 := below_cell c0 bb
              have c1 := below_cell c1 bb
              have d0 := below_cell d0 bb
              have d1 := below_cell d1 bb
              have BC := Lib.hid (BC.out.trans (bb.mono BC.out.size))
              clear bb
              go_wp2_with (go_at_call 14; refine (H4.out _).mono ?_; rintro e w5 ⟨rfl, bb⟩; refine Hid.out ?_)
              refine Lib.hid ?_
              have c0 := below_cell c0 bb
              have c1 := below_cell c1 bb
              have d0 := below_cell d0 bb
              have d1 := below_cell d1 bb
              have BC := Lib.hid (BC.out.trans (bb.mono BC.out.size))
              clear bb
              have m5 := M.out.fresh BC.out
              have M5 := Lib.hid (show OMem w ((w5.setCell ⟨w1.heap.size, 0, none⟩ (.int .i64 (p - n))).setCell ⟨w1.heap.size, 1, none⟩ (.int .i64 (T + s))) [.raw w1.heap.size (.cells #[.int .i64 (p - n), .int .i64 (T + s)] 24 (0, 0))] from (m5.raw_set (i := 0) rfl 0 _).raw_set (i := 0) rfl 1 _)
              have z0 := Lib.frozen_of_heap (m5.raw_at (i := 0) rfl) 0
              have z1 := Lib.frozen_of_heap (m5.raw_at (i := 0) rfl) 1
              clear m5
              go_wp2
              go_roundw
              case rel => exact ⟨k + 1, T + s, Z + n, p - n, T + s, by omega, by go_num, by go_num, by go_num, by omega, HRN, by omega, HBN, by omega, M5.out⟩
              case measure => (simp [RowKit.intOf]; try omega)
        · obtain rfl : k = l.length := by omega
          have BE := Lib.hid mm.below
          clear mm
          go_wp2
          go_ret
          exact ⟨rfl, BE.out⟩
end Go.Proofs.Ytmlogoaicjdjiaa
