/- The walk of GraphRefuses. -/
import Derived.Test.YtaecihkhcedijaaGOrders
import Derived.Test.YtaecihkhcedijaaGRight
namespace Go.Proofs.Ytaecihkhcedijaa
open Go.RowKit Go.Maps Go.ChangeMaps Go.MapKept
open Gp
attribute [local go_sem ↓] Go.wp_at_zero Go.wp_at_succ

/-- A parent is missing. -/
def miss (G : List Nd) (ps : List Int) : Bool := ps.any fun p => !(ids G).contains p
theorem miss_take {G : List Nd} {ps : List Int} {m : Nat} {p : Int} (h : ps[m]? = some p) : miss G (ps.take (m + 1)) = (miss G (ps.take m) || !(ids G).contains p) := by
  unfold miss; rw [List.take_add_one, h, List.any_append]; simp
theorem miss_iff {G : List Nd} {ps : List Int} : miss G ps = false ↔ ∀ p ∈ ps, p ∈ ids G := by
  unfold miss; rw [List.any_eq_false]
  constructor
  · intro h p hp
    have := h p hp
    rw [Bool.not_eq_true', ← Bool.not_eq_true, List.contains_iff_mem] at this
    exact Classical.not_not.1 this
  · intro h p hp
    rw [Bool.not_eq_true', ← Bool.not_eq_true, List.contains_iff_mem]
    exact fun q => q (h p hp)
theorem add_long (G : List Nd) (n : Nd) : (add G n).2.length ≤ G.length + 1 := by
  rcases add_cases G n with h | ⟨h, _⟩
  · rw [h]; exact Nat.le_succ _
  · rw [h, ins_len]; exact Nat.le_refl _
theorem in_yes {G : List Nd} {x : Int} (h : x ∈ ids G) : (ids G).contains x = true := List.contains_iff_mem.2 h
theorem in_no {G : List Nd} {x : Int} (h : x ∉ ids G) : (ids G).contains x = false := by rw [← Bool.not_eq_true, List.contains_iff_mem]; exact h
set_option maxHeartbeats 4000000 in
set_option maxRecDepth 100000 in
theorem refuses_walk (A : GApi) {w : World} {v : Value} {l : List Nd} (hv : NodesAt w v l) :
    Calls Try.prog 8 #[v] w fun e w' => e = .returned (.bool true) ∧ Below w.heap.size w w' := by
  have HV := Lib.hid hv
  obtain ⟨a, cap, rfl, -⟩ := hv
  cases hf : few l 20 with
  | false =>
    have HFW := Lib.hid (fun (w1 : World) (h : Below w.heap.size w w1) => few20 (HV.out.keep h) hf)
    clear hf
    go_enter Try.func8, Try.ntmps8
    go_wp2_with (go_at_call 9; refine (small_any A _).mono ?_; rintro e w1 ⟨rfl, m1⟩; refine Hid.out ?_)
    refine Lib.hid ?_
    have B1 := Lib.hid m1
    clear m1
    go_wp2_with (go_at_call 10; refine (HFW.out _ B1.out).mono ?_; rintro e w2 ⟨rfl, rfl⟩; refine Hid.out ?_)
    refine Lib.hid ?_
    go_wp2
    go_ret
    exact ⟨rfl, B1.out⟩
  | true =>
    have HFW := Lib.hid (fun (w1 : World) (h : Below w.heap.size w w1) => few20 (HV.out.keep h) hf)
    obtain ⟨hl, hf30⟩ := few_true hf
    have HF := Lib.hid (fun n hn => Nat.le_trans (hf30 n hn) (by decide : 30 ≤ 100))
    clear hf hf30
    go_enter Try.func8, Try.ntmps8
    go_wp2_with (go_at_call 9; refine (small_any A _).mono ?_; rintro e w1 ⟨rfl, m1⟩; refine Hid.out ?_)
    refine Lib.hid ?_
    have B1 := Lib.hid m1
    have HV1 := Lib.hid (HV.out.keep m1)
    clear m1
    go_wp2_with (go_at_call 10; refine (HFW.out _ B1.out).mono ?_; rintro e w2 ⟨rfl, rfl⟩; refine Hid.out ?_)
    refine Lib.hid ?_
    have HN := Lib.hid (A.new_ (OMem.start w1))
    go_wp2_with (go_at_call 11; refine (HN.out).mono ?_; rintro e w2 ⟨b, rfl, m2⟩; refine Hid.out ?_)
    refine Lib.hid ?_
    have M2 := Lib.hid (show OMem w1 w2 [A.ob b []] from m2)
    clear m2 HN HFW
    go_wp2
    go_loopw [5] (fun i wr => ∃ (k : Nat) (G : List Nd), k ≤ l.length ∧ i = .int .i64 k ∧ Hid (G.length ≤ k) ∧ OMem w1 wr [A.ob b G]) (fun i _ => l.length - (intOf i).toNat)
    case atStart => exact ⟨0, [], Nat.zero_le _, rfl, Lib.hid (Nat.le_refl _), M2.out⟩
    case round =>
      obtain ⟨k, G, hk, rfl, HGK, m⟩ := hrel
      have M := Lib.hid m
      clear M2
      by_cases hlt : k < l.length
      · obtain ⟨n, hn⟩ : ∃ n, l[k]? = some n := ⟨_, List.getElem?_eq_getElem hlt⟩
        have OK := Lib.hid (A.ok m (i := 0) rfl)
        have HN := Lib.hid hn
        have HGL := Lib.hid (show G.length ≤ 50 by have := HGK.out; omega)
        obtain ⟨lb, off, cap', na, nc, h1, c0, c1, hp⟩ := HV1.out.both m.below hn
        cases h1
        have HPN := Lib.hid hp
        have hn30 : n.2.length ≤ 100 := HF.out n (List.mem_of_getElem? hn)
        have HC := Lib.hid (A.copy_ m (i := 0) rfl (by have := HGL.out; omega))
        clear m hn hp
        go_wp2_with (go_at_call 37; refine (HC.out).mono ?_; rintro e w3 ⟨c, rfl, b3, m3⟩; refine Hid.out ?_)
        refine Lib.hid ?_
        have M3 := Lib.hid (show OMem w1 w3 [A.ob b G, A.ob c G] from m3)
        have c0 := below_cell c0 b3
        have c1 := below_cell c1 b3
        have HRt := right_any (n := n) (HPN.out.keep m3.below) (by omega)
        clear m3 b3 HC
        cases hr : right n with
        | false =>
          rw [hr] at HRt
          have HRt := Lib.hid HRt
          go_wp2_with (go_at_call 40; refine (HRt.out).mono ?_; rintro e w4 ⟨rfl, m4⟩; refine Hid.out ?_)
          refine Lib.hid ?_
          have M4 := Lib.hid (M3.out.fresh m4)
          have c0 := below_cell c0 m4
          have c1 := below_cell c1 m4
          clear m4
          go_wp2
          go_quiet (fail)
          go_wp2
          go_loopw [10, 11] (fun ms i wr => ∃ m : Nat, m ≤ n.2.length ∧ i = .int .i64 m ∧ ms = .bool (miss G (n.2.take m)) ∧ OMem w1 wr [A.ob b G, A.ob c G]) (fun _ i _ => n.2.length - (intOf i).toNat)
          case atStart => exact ⟨0, Nat.zero_le _, rfl, rfl, M4.out.fresh (drewN_below _ _)⟩
          case round =>
            obtain ⟨m, hm, rfl, rfl, mi⟩ := hrel
            have MI := Lib.hid mi
            obtain ⟨lb2, off2, cap2, na2, nc2, h2, c0, c1, hp2⟩ := HV1.out.both mi.below HN.out
            cases h2
            by_cases hlt2 : m < n.2.length
            · obtain ⟨p, hp⟩ : ∃ p, n.2[m]? = some p := ⟨_, List.getElem?_eq_getElem hlt2⟩
              have HMT := Lib.hid (miss_take (G := G) hp)
              obtain ⟨lb3, off3, cap3, h3, _, hc3⟩ := (hp2.keep mi.below).form (by omega)
              cases h3
              have c2 := hc3 m p hp
              have HH := A.has_ p mi (i := 1) rfl (by have := HGL.out; omega)
              clear hp hc3 mi hp2
              cases hms : miss G (n.2.take m) with
              | true =>
                rw [hms] at HMT
                clear HH
                go_wp2
                go_roundw
                case rel => exact ⟨m + 1, by omega, by go_num, by rw [HMT.out]; rfl, MI.out⟩
                case measure => simp [intOf]; omega
              | false =>
                rw [hms] at HMT
                cases hc : (ids G).contains p with
                | true =>
                  rw [hc] at HH HMT
                  have HH := Lib.hid HH
                  clear hc hms
                  go_wp2_with (go_at_call 15; refine (HH.out).mono ?_; rintro e w7 ⟨rfl, m7⟩; refine Hid.out ?_)
                  refine Lib.hid ?_
                  have M7 := Lib.hid (MI.out.fresh m7)
                  clear m7
                  go_wp2
                  go_roundw
                  case rel => exact ⟨m + 1, by omega, by go_num, by rw [HMT.out]; rfl, M7.out⟩
                  case measure => simp [intOf]; omega
                | false =>
                  rw [hc] at HH HMT
                  have HH := Lib.hid HH
                  clear hc hms
                  go_wp2_with (go_at_call 15; refine (HH.out).mono ?_; rintro e w7 ⟨rfl, m7⟩; refine Hid.out ?_)
                  refine Lib.hid ?_
                  have M7 := Lib.hid (MI.out.fresh m7)
                  clear m7
                  go_wp2
                  go_roundw
                  case rel => exact ⟨m + 1, by omega, by go_num, by rw [HMT.out]; rfl, M7.out⟩
                  case measure => simp [intOf]; omega
            · obtain rfl : m = n.2.length := by omega
              rw [List.take_length]
              have HA := A.add_ (n := n) mi (i := 0) rfl (hp2.keep mi.below) (by omega) (by have := HGL.out; omega)
              clear mi hp2
              have HADD := Lib.hid (add_right (G := G) (n := n) (by rw [hr]; decide))
              generalize miss G n.2 = ms
              rw [HADD.out] at HA
              have HA := Lib.hid HA
              go_wp2_with (go_at_call 12; refine (HA.out).mono ?_; rintro e w8 ⟨rfl, m8⟩; refine Hid.out ?_)
              refine Lib.hid ?_
              have M8 := Lib.hid (show OMem w1 w8 [A.ob b G, A.ob c G] from m8)
              have HS := Lib.hid (same_both A m8 (i := 1) (j := 0) rfl rfl (by have := HGL.out; omega))
              clear m8 HA
              go_wp2_with (go_at_call 34; refine (HS.out).mono ?_; rintro e w9 ⟨rfl, m9⟩; refine Hid.out ?_)
              refine Lib.hid ?_
              have M9 := Lib.hid (M8.out.fresh m9)
              clear m9 HS
              go_wp2
              go_roundw
              case rel => exact ⟨k + 1, G, by omega, by go_num, Lib.hid (Nat.le_succ_of_le HGK.out), M9.out.take 1⟩
              case measure => simp [intOf]; omega
        | true =>
          rw [hr] at HRt
          have HRt := Lib.hid HRt
          go_wp2_with (go_at_call 40; refine (HRt.out).mono ?_; rintro e w4 ⟨rfl, m4⟩; refine Hid.out ?_)
          refine Lib.hid ?_
          have M4 := Lib.hid (M3.out.fresh m4)
          have c0 := below_cell c0 m4
          have c1 := below_cell c1 m4
          have HH := A.has_ n.1 M4.out (i := 1) rfl (by have := HGL.out; omega)
          clear m4 HRt
          by_cases hin : n.1 ∈ ids G
          · rw [in_yes hin] at HH
            have HH := Lib.hid HH
            go_wp2_with (go_at_call 15; refine (HH.out).mono ?_; rintro e w5 ⟨rfl, m5⟩; refine Hid.out ?_)
            refine Lib.hid ?_
            have M5 := Lib.hid (M4.out.fresh m5)
            have c0 := below_cell c0 m5
            have c1 := below_cell c1 m5
            clear m5 HH
            by_cases hpe : par G n.1 = n.2
            · have S0 := And.intro (below_cell c0 (below_drew w5)) (below_cell c1 (below_drew w5))
              have MD := Lib.hid (M5.out.fresh (below_drew w5))
              have H1 := Lib.hid (A.parents_ n.1 MD.out (i := 1) rfl (by have := HGL.out; omega))
              go_wp2
              refine region_till 14 (fun wx => wx.cell? ⟨lb, off + k * 2, none⟩ = some (.int .i64 n.1) ∧ wx.cell? ⟨lb, off + k * 2 + 1, none⟩ = some (.slice na n.2.length nc)) (by kernel_rfl) ?_
              refine till_take 0 60 false (v := ?v0) (by kernel_rfl) (by kernel_rfl) (by kernel_rfl) (by kernel_rfl) (by kernel_rfl) (fun _ _ _ h => h) ?hw0 S0 ?hy0 ?rest0
              case hw0 => (simp only [List.getElem?_toArray, List.getElem?_cons_zero, Option.elim]; rfl)
              case hy0 => (simp only [List.getElem?_toArray, List.getElem?_cons_zero, Option.elim]; intro wx _; go_simp; with_reducible rfl)
              simp only [dstOf, List.getElem?_toArray, List.getElem?_cons_zero, Option.bind, Act.put, List.setIfInBounds_toArray, List.set_cons_zero, List.set_cons_succ]
              refine till_take 1 60 false (v := ?v1) (by kernel_rfl) (by kernel_rfl) (by kernel_rfl) (by kernel_rfl) (by kernel_rfl) (fun _ _ _ h => h) ?hw1 S0 ?hy1 ?rest1
              case hw1 => (simp only [List.getElem?_toArray, List.getElem?_cons_zero, List.getElem?_cons_succ, Option.elim]; rfl)
              case hy1 => (simp only [List.getElem?_toArray, List.getElem?_cons_zero, List.getElem?_cons_succ, Option.elim]; intro wx _; go_simp; with_reducible rfl)
              simp only [dstOf, List.getElem?_toArray, List.getElem?_cons_zero, List.getElem?_cons_succ, Option.bind, Act.put, List.setIfInBounds_toArray, List.set_cons_zero, List.set_cons_succ]
              refine till_take 2 60 false (v := ?v2) (by kernel_rfl) (by kernel_rfl) (by kernel_rfl) (by kernel_rfl) (by kernel_rfl) (fun _ _ _ h => h) ?hw2 S0 ?hy2 ?rest2
              case hw2 => (simp only [List.getElem?_toArray, List.getElem?_cons_zero, List.getElem?_cons_succ, Option.elim]; rfl)
              case hy2 => (simp only [List.getElem?_toArray, List.getElem?_cons_zero, List.getElem?_cons_succ, Option.elim]; intro wx _; go_simp; with_reducible rfl)
              simp only [dstOf, List.getElem?_toArray, List.getElem?_cons_zero, List.getElem?_cons_succ, Option.bind, Act.put, List.setIfInBounds_toArray, List.set_cons_zero, List.set_cons_succ]
              refine till_take 3 60 false (v := ?v3) (by kernel_rfl) (by kernel_rfl) (by kernel_rfl) (by kernel_rfl) (by kernel_rfl) (fun _ _ _ h => h) ?hw3 S0 ?hy3 ?rest3
              case hw3 => (simp only [List.getElem?_toArray, List.getElem?_cons_zero, List.getElem?_cons_succ, Option.elim]; rfl)
              case hy3 => (simp only [List.getElem?_toArray, List.getElem?_cons_zero, List.getElem?_cons_succ, Option.elim]; intro wx _; go_simp; with_reducible rfl)
              simp only [dstOf, List.getElem?_toArray, List.getElem?_cons_zero, List.getElem?_cons_succ, Option.bind, Act.put, List.setIfInBounds_toArray, List.set_cons_zero, List.set_cons_succ]
              refine till_take 4 60 false (v := ?v4) (by kernel_rfl) (by kernel_rfl) (by kernel_rfl) (by kernel_rfl) (by kernel_rfl) (fun _ _ _ h => h) ?hw4 S0 ?hy4 ?rest4
              case hw4 => (simp only [List.getElem?_toArray, List.getElem?_cons_zero, List.getElem?_cons_succ, Option.elim]; rfl)
              case hy4 => (simp only [List.getElem?_toArray, List.getElem?_cons_zero, List.getElem?_cons_succ, Option.elim]; intro wx _; go_simp; with_reducible rfl)
              simp only [dstOf, List.getElem?_toArray, List.getElem?_cons_zero, List.getElem?_cons_succ, Option.bind, Act.put, List.setIfInBounds_toArray, List.set_cons_zero, List.set_cons_succ]
              refine till_take 5 60 false (v := ?v5) (by kernel_rfl) (by kernel_rfl) (by kernel_rfl) (by kernel_rfl) (by kernel_rfl) (fun _ _ _ h => h) ?hw5 S0 ?hy5 ?rest5
              case hw5 => (simp only [List.getElem?_toArray, List.getElem?_cons_zero, List.getElem?_cons_succ, Option.elim]; rfl)
              case hy5 => (simp only [List.getElem?_toArray, List.getElem?_cons_zero, List.getElem?_cons_succ, Option.elim]; intro wx _; go_simp; with_reducible rfl)
              simp only [dstOf, List.getElem?_toArray, List.getElem?_cons_zero, List.getElem?_cons_succ, Option.bind, Act.put, List.setIfInBounds_toArray, List.set_cons_zero, List.set_cons_succ]
              refine till_take 6 60 false (v := ?v6) (by kernel_rfl) (by kernel_rfl) (by kernel_rfl) (by kernel_rfl) (by kernel_rfl) (fun _ _ _ h => h) ?hw6 S0 ?hy6 ?rest6
              case hw6 => (simp only [List.getElem?_toArray, List.getElem?_cons_zero, List.getElem?_cons_succ, Option.elim]; rfl)
              case hy6 => (simp only [List.getElem?_toArray, List.getElem?_cons_zero, List.getElem?_cons_succ, Option.elim]; intro wx _; go_simp; with_reducible rfl)
              simp only [dstOf, List.getElem?_toArray, List.getElem?_cons_zero, List.getElem?_cons_succ, Option.bind, Act.put, List.setIfInBounds_toArray, List.set_cons_zero, List.set_cons_succ]
              refine till_take 7 60 true (v := ?v7) (by kernel_rfl) (by kernel_rfl) (by kernel_rfl) (by kernel_rfl) (by kernel_rfl) (fun _ _ _ h => h) ?hw7 S0 ?hy7 ?rest7
              case hw7 => (simp only [List.getElem?_toArray, List.getElem?_cons_zero, List.getElem?_cons_succ, Option.elim]; rfl)
              case hy7 => (simp only [List.getElem?_toArray, List.getElem?_cons_zero, List.getElem?_cons_succ, Option.elim]; intro wx hx; have x0 := (hx trivial).1; have x1 := (hx trivial).2; go_simp; with_reducible rfl)
              simp only [dstOf, List.getElem?_toArray, List.getElem?_cons_zero, List.getElem?_cons_succ, Option.bind, Act.put, List.setIfInBounds_toArray, List.set_cons_zero, List.set_cons_succ]
              refine till_take 9 60 false (v := ?v9) (by kernel_rfl) (by kernel_rfl) (by kernel_rfl) (by kernel_rfl) (by kernel_rfl) (fun _ _ _ h => h) ?hw9 S0 ?hy9 ?rest9
              case hw9 => (simp only [List.getElem?_toArray, List.getElem?_cons_zero, List.getElem?_cons_succ, Option.elim]; rfl)
              case hy9 => (simp only [List.getElem?_toArray, List.getElem?_cons_zero, List.getElem?_cons_succ, Option.elim]; intro wx _; go_simp; with_reducible rfl)
              simp only [dstOf, List.getElem?_toArray, List.getElem?_cons_zero, List.getElem?_cons_succ, Option.bind, Act.put, List.setIfInBounds_toArray, List.set_cons_zero, List.set_cons_succ]
              refine till_take 10 60 false (v := ?v10) (by kernel_rfl) (by kernel_rfl) (by kernel_rfl) (by kernel_rfl) (by kernel_rfl) (fun _ _ _ h => h) ?hw10 S0 ?hy10 ?rest10
              case hw10 => (simp only [List.getElem?_toArray, List.getElem?_cons_zero, List.getElem?_cons_succ, Option.elim]; rfl)
              case hy10 => (simp only [List.getElem?_toArray, List.getElem?_cons_zero, List.getElem?_cons_succ, Option.elim]; intro wx _; go_simp; with_reducible rfl)
              simp only [dstOf, List.getElem?_toArray, List.getElem?_cons_zero, List.getElem?_cons_succ, Option.bind, Act.put, List.setIfInBounds_toArray, List.set_cons_zero, List.set_cons_succ]
              refine till_take 11 60 false (v := ?v11) (by kernel_rfl) (by kernel_rfl) (by kernel_rfl) (by kernel_rfl) (by kernel_rfl) (fun _ _ _ h => h) ?hw11 S0 ?hy11 ?rest11
              case hw11 => (simp only [List.getElem?_toArray, List.getElem?_cons_zero, List.getElem?_cons_succ, Option.elim]; rfl)
              case hy11 => (simp only [List.getElem?_toArray, List.getElem?_cons_zero, List.getElem?_cons_succ, Option.elim]; intro wx _; go_simp; with_reducible rfl)
              simp only [dstOf, List.getElem?_toArray, List.getElem?_cons_zero, List.getElem?_cons_succ, Option.bind, Act.put, List.setIfInBounds_toArray, List.set_cons_zero, List.set_cons_succ]
              refine till_take 12 60 false (v := ?v12) (by kernel_rfl) (by kernel_rfl) (by kernel_rfl) (by kernel_rfl) (by kernel_rfl) (fun _ _ _ h => h) ?hw12 S0 ?hy12 ?rest12
              case hw12 => (simp only [List.getElem?_toArray, List.getElem?_cons_zero, List.getElem?_cons_succ, Option.elim]; rfl)
              case hy12 => (simp only [List.getElem?_toArray, List.getElem?_cons_zero, List.getElem?_cons_succ, Option.elim]; intro wx _; go_simp; with_reducible rfl)
              simp only [dstOf, List.getElem?_toArray, List.getElem?_cons_zero, List.getElem?_cons_succ, Option.bind, Act.put, List.setIfInBounds_toArray, List.set_cons_zero, List.set_cons_succ]
              refine till_take 13 60 true (v := ?v13) (by kernel_rfl) (by kernel_rfl) (by kernel_rfl) (by kernel_rfl) (by kernel_rfl) (fun _ _ _ h => h) ?hw13 S0 ?hy13 ?rest13
              case hw13 => (simp only [List.getElem?_toArray, List.getElem?_cons_zero, List.getElem?_cons_succ, Option.elim]; rfl)
              case hy13 => (simp only [List.getElem?_toArray, List.getElem?_cons_zero, List.getElem?_cons_succ, Option.elim]; intro wx hx; have x0 := (hx trivial).1; have x1 := (hx trivial).2; go_simp; with_reducible rfl)
              simp only [dstOf, List.getElem?_toArray, List.getElem?_cons_zero, List.getElem?_cons_succ, Option.bind, Act.put, List.setIfInBounds_toArray, List.set_cons_zero, List.set_cons_succ]
              refine till_before 8 (by kernel_rfl) (fun K hK => ?_)
              simp only [List.getElem?_toArray, List.getElem?_cons_zero, List.getElem?_cons_succ, Option.elim]
              rw [if_pos (by rfl)]
              go_simp
              go_at_call 22
              refine (H1.out).mono ?_
              rintro e w6 ⟨v6, rfl, hv6, m6⟩
              refine hK.out _ _ (⟨below_cell S0.1 m6, below_cell S0.2 m6⟩) ?_
              clear hK K
              try simp only [Act.put, List.setIfInBounds_toArray, List.set_cons_zero, List.set_cons_succ]
              have MD := Lib.hid (MD.out.fresh m6)
              clear H1 S0
              have H1 := s_same hv6 (HPN.out.keep MD.out.below) (Nat.le_trans (par_len OK.out n.1) (by have := HGL.out; omega))
              rw [show decide (par G n.1 = n.2) = true from decide_eq_true hpe] at H1
              have H1 := Lib.hid H1
              clear m6 hv6
              refine till_step 14 (by kernel_rfl) (by kernel_rfl) (fun K hK => ?_)
              simp only [List.getElem?_toArray, List.getElem?_cons_zero, List.getElem?_cons_succ, Option.elim]
              rw [if_pos (by rfl)]
              go_simp
              go_at_call 21
              refine (H1.out).mono ?_
              rintro e w7 ⟨rfl, m7⟩
              refine hK.out _ _ ?_
              clear hK K
              try simp only [Act.put, List.setIfInBounds_toArray, List.set_cons_zero, List.set_cons_succ]
              have MD := Lib.hid (MD.out.fresh m7)
              clear H1 m7
              refine till_late 15 (v := ?v15) (by kernel_rfl) (by kernel_rfl) (by kernel_rfl) (by kernel_rfl) (fun _ _ _ h => h) (by kernel_rfl) ?hw15 ?hy15 ?rest15
              case hw15 => (simp only [List.getElem?_toArray, List.getElem?_cons_zero, List.getElem?_cons_succ, Option.elim]; rfl)
              case hy15 => (simp only [List.getElem?_toArray, List.getElem?_cons_zero, List.getElem?_cons_succ, Option.elim]; intro wx; go_simp; with_reducible rfl)
              simp only [dstOf, List.getElem?_toArray, List.getElem?_cons_zero, List.getElem?_cons_succ, Option.bind, Act.put, List.setIfInBounds_toArray, List.set_cons_zero, List.set_cons_succ]
              refine till_late 16 (v := ?v16) (by kernel_rfl) (by kernel_rfl) (by kernel_rfl) (by kernel_rfl) (fun _ _ _ h => h) (by kernel_rfl) ?hw16 ?hy16 ?rest16
              case hw16 => (simp only [List.getElem?_toArray, List.getElem?_cons_zero, List.getElem?_cons_succ, Option.elim]; rfl)
              case hy16 => (simp only [List.getElem?_toArray, List.getElem?_cons_zero, List.getElem?_cons_succ, Option.elim]; intro wx; go_simp; with_reducible rfl)
              simp only [dstOf, List.getElem?_toArray, List.getElem?_cons_zero, List.getElem?_cons_succ, Option.bind, Act.put, List.setIfInBounds_toArray, List.set_cons_zero, List.set_cons_succ]
              refine till_late 17 (v := ?v17) (by kernel_rfl) (by kernel_rfl) (by kernel_rfl) (by kernel_rfl) (fun _ _ _ h => h) (by kernel_rfl) ?hw17 ?hy17 ?rest17
              case hw17 => (simp only [List.getElem?_toArray, List.getElem?_cons_zero, List.getElem?_cons_succ, Option.elim]; rfl)
              case hy17 => (simp only [List.getElem?_toArray, List.getElem?_cons_zero, List.getElem?_cons_succ, Option.elim]; intro wx; go_simp; with_reducible rfl)
              simp only [dstOf, List.getElem?_toArray, List.getElem?_cons_zero, List.getElem?_cons_succ, Option.bind, Act.put, List.setIfInBounds_toArray, List.set_cons_zero, List.set_cons_succ]
              refine till_end (by kernel_rfl) ?_ _
              go_wp2
              go_loopw [10, 11] (fun ms i wr => ∃ m : Nat, m ≤ n.2.length ∧ i = .int .i64 m ∧ ms = .bool (miss G (n.2.take m)) ∧ OMem w1 wr [A.ob b G, A.ob c G]) (fun _ i _ => n.2.length - (intOf i).toNat)
              case atStart => exact ⟨0, Nat.zero_le _, rfl, rfl, MD.out⟩
              case round =>
                obtain ⟨m, hm, rfl, rfl, mi⟩ := hrel
                have MI := Lib.hid mi
                obtain ⟨lb2, off2, cap2, na2, nc2, h2, c0, c1, hp2⟩ := HV1.out.both mi.below HN.out
                cases h2
                by_cases hlt2 : m < n.2.length
                · obtain ⟨p, hp⟩ : ∃ p, n.2[m]? = some p := ⟨_, List.getElem?_eq_getElem hlt2⟩
                  have HMT := Lib.hid (miss_take (G := G) hp)
                  obtain ⟨lb3, off3, cap3, h3, _, hc3⟩ := (hp2.keep mi.below).form (by omega)
                  cases h3
                  have c2 := hc3 m p hp
                  have HH := A.has_ p mi (i := 1) rfl (by have := HGL.out; omega)
                  clear hp hc3 mi hp2
                  cases hms : miss G (n.2.take m) with
                  | true =>
                    rw [hms] at HMT
                    clear HH
                    go_wp2
                    go_roundw
                    case rel => exact ⟨m + 1, by omega, by go_num, by rw [HMT.out]; rfl, MI.out⟩
                    case measure => simp [intOf]; omega
                  | false =>
                    rw [hms] at HMT
                    cases hc : (ids G).contains p with
                    | true =>
                      rw [hc] at HH HMT
                      have HH := Lib.hid HH
                      clear hc hms
                      go_wp2_with (go_at_call 15; refine (HH.out).mono ?_; rintro e w7 ⟨rfl, m7⟩; refine Hid.out ?_)
                      refine Lib.hid ?_
                      have M7 := Lib.hid (MI.out.fresh m7)
                      clear m7
                      go_wp2
                      go_roundw
                      case rel => exact ⟨m + 1, by omega, by go_num, by rw [HMT.out]; rfl, M7.out⟩
                      case measure => simp [intOf]; omega
                    | false =>
                      rw [hc] at HH HMT
                      have HH := Lib.hid HH
                      clear hc hms
                      go_wp2_with (go_at_call 15; refine (HH.out).mono ?_; rintro e w7 ⟨rfl, m7⟩; refine Hid.out ?_)
                      refine Lib.hid ?_
                      have M7 := Lib.hid (MI.out.fresh m7)
                      clear m7
                      go_wp2
                      go_roundw
                      case rel => exact ⟨m + 1, by omega, by go_num, by rw [HMT.out]; rfl, M7.out⟩
                      case measure => simp [intOf]; omega
                · obtain rfl : m = n.2.length := by omega
                  rw [List.take_length]
                  have HA := A.add_ (n := n) mi (i := 0) rfl (hp2.keep mi.below) (by omega) (by have := HGL.out; omega)
                  clear mi hp2
                  have HADD := Lib.hid (add_there (G := G) (n := n) hr hin hpe)
                  rw [miss_iff.2 (fun p hp => by obtain ⟨x, hx, e⟩ := mem_ids.1 hin; rw [← e, par_of OK.out.asc hx] at hpe; exact OK.out.cl x hx p (by rw [hpe]; exact hp))]
                  have AG := Lib.hid (show add G n = (0, G) ∧ (ids G).contains n.1 = true from ⟨HADD.out, in_yes hin⟩)
                  have HLL := Lib.hid (show G.length ≤ G.length + 1 from Nat.le_succ _)
                  clear hr hin
                  rw [HADD.out] at HA
                  have HA := Lib.hid HA
                  have hgl := HGL.out
                  go_wp2_with (go_at_call 12; refine (HA.out).mono ?_; rintro e w8 ⟨rfl, m8⟩; refine Hid.out ?_)
                  refine Lib.hid ?_
                  have M8 := Lib.hid (show OMem w1 w8 [A.ob b G, A.ob c G] from m8)
                  obtain ⟨lb4, off4, cap4, na4, nc4, h4, c4, c5, hp4⟩ := HV1.out.both m8.below HN.out
                  cases h4
                  have HH := A.has_ n.1 m8 (i := 0) rfl (by have := HLL.out; omega)
                  rw [AG.out.2] at HH
                  have HH := Lib.hid HH
                  clear m8 HA c0 c1
                  go_wp2_with (go_at_call 15; refine (HH.out).mono ?_; rintro e w9 ⟨rfl, m9⟩; refine Hid.out ?_)
                  refine Lib.hid ?_
                  have M9 := Lib.hid (M8.out.fresh m9)
                  have c4 := below_cell c4 m9
                  have c5 := below_cell c5 m9
                  have HA := A.add_ (n := n) M9.out (i := 0) rfl (hp4.keep M9.out.below) (by omega) (by have := HLL.out; omega)
                  rw [AG.out.1] at HA
                  have HA := Lib.hid HA
                  clear m9 HH hp4
                  go_wp2_with (go_at_call 12; refine (HA.out).mono ?_; rintro e w10 ⟨rfl, m10⟩; refine Hid.out ?_)
                  refine Lib.hid ?_
                  have M10 := Lib.hid (show OMem w1 w10 [A.ob b G, A.ob c G] from m10)
                  clear m10 HA c4 c5
                  have HS := Lib.hid (same_both A M10.out (i := 1) (j := 0) rfl rfl (by omega))
                  go_wp2_with (go_at_call 34; refine (HS.out).mono ?_; rintro e w12 ⟨rfl, m12⟩; refine Hid.out ?_)
                  refine Lib.hid ?_
                  have M12 := Lib.hid (M10.out.fresh m12)
                  clear m12 HS
                  go_wp2
                  go_roundw
                  case rel => exact ⟨k + 1, G, by omega, by go_num, Lib.hid (by have := HLL.out; have := HGK.out; omega), M12.out.take 1⟩
                  case measure => simp [intOf]; omega
            · have S0 := And.intro (below_cell c0 (below_drew w5)) (below_cell c1 (below_drew w5))
              have MD := Lib.hid (M5.out.fresh (below_drew w5))
              have H1 := Lib.hid (A.parents_ n.1 MD.out (i := 1) rfl (by have := HGL.out; omega))
              go_wp2
              refine region_till 14 (fun wx => wx.cell? ⟨lb, off + k * 2, none⟩ = some (.int .i64 n.1) ∧ wx.cell? ⟨lb, off + k * 2 + 1, none⟩ = some (.slice na n.2.length nc)) (by kernel_rfl) ?_
              refine till_take 0 60 false (v := ?v0o) (by kernel_rfl) (by kernel_rfl) (by kernel_rfl) (by kernel_rfl) (by kernel_rfl) (fun _ _ _ h => h) ?hw0o S0 ?hy0o ?rest0o
              case hw0o => (simp only [List.getElem?_toArray, List.getElem?_cons_zero, Option.elim]; rfl)
              case hy0o => (simp only [List.getElem?_toArray, List.getElem?_cons_zero, Option.elim]; intro wx _; go_simp; with_reducible rfl)
              simp only [dstOf, List.getElem?_toArray, List.getElem?_cons_zero, Option.bind, Act.put, List.setIfInBounds_toArray, List.set_cons_zero, List.set_cons_succ]
              refine till_take 1 60 false (v := ?v1o) (by kernel_rfl) (by kernel_rfl) (by kernel_rfl) (by kernel_rfl) (by kernel_rfl) (fun _ _ _ h => h) ?hw1o S0 ?hy1o ?rest1o
              case hw1o => (simp only [List.getElem?_toArray, List.getElem?_cons_zero, List.getElem?_cons_succ, Option.elim]; rfl)
              case hy1o => (simp only [List.getElem?_toArray, List.getElem?_cons_zero, List.getElem?_cons_succ, Option.elim]; intro wx _; go_simp; with_reducible rfl)
              simp only [dstOf, List.getElem?_toArray, List.getElem?_cons_zero, List.getElem?_cons_succ, Option.bind, Act.put, List.setIfInBounds_toArray, List.set_cons_zero, List.set_cons_succ]
              refine till_take 2 60 false (v := ?v2o) (by kernel_rfl) (by kernel_rfl) (by kernel_rfl) (by kernel_rfl) (by kernel_rfl) (fun _ _ _ h => h) ?hw2o S0 ?hy2o ?rest2o
              case hw2o => (simp only [List.getElem?_toArray, List.getElem?_cons_zero, List.getElem?_cons_succ, Option.elim]; rfl)
              case hy2o => (simp only [List.getElem?_toArray, List.getElem?_cons_zero, List.getElem?_cons_succ, Option.elim]; intro wx _; go_simp; with_reducible rfl)
              simp only [dstOf, List.getElem?_toArray, List.getElem?_cons_zero, List.getElem?_cons_succ, Option.bind, Act.put, List.setIfInBounds_toArray, List.set_cons_zero, List.set_cons_succ]
              refine till_take 3 60 false (v := ?v3o) (by kernel_rfl) (by kernel_rfl) (by kernel_rfl) (by kernel_rfl) (by kernel_rfl) (fun _ _ _ h => h) ?hw3o S0 ?hy3o ?rest3o
              case hw3o => (simp only [List.getElem?_toArray, List.getElem?_cons_zero, List.getElem?_cons_succ, Option.elim]; rfl)
              case hy3o => (simp only [List.getElem?_toArray, List.getElem?_cons_zero, List.getElem?_cons_succ, Option.elim]; intro wx _; go_simp; with_reducible rfl)
              simp only [dstOf, List.getElem?_toArray, List.getElem?_cons_zero, List.getElem?_cons_succ, Option.bind, Act.put, List.setIfInBounds_toArray, List.set_cons_zero, List.set_cons_succ]
              refine till_take 4 60 false (v := ?v4o) (by kernel_rfl) (by kernel_rfl) (by kernel_rfl) (by kernel_rfl) (by kernel_rfl) (fun _ _ _ h => h) ?hw4o S0 ?hy4o ?rest4o
              case hw4o => (simp only [List.getElem?_toArray, List.getElem?_cons_zero, List.getElem?_cons_succ, Option.elim]; rfl)
              case hy4o => (simp only [List.getElem?_toArray, List.getElem?_cons_zero, List.getElem?_cons_succ, Option.elim]; intro wx _; go_simp; with_reducible rfl)
              simp only [dstOf, List.getElem?_toArray, List.getElem?_cons_zero, List.getElem?_cons_succ, Option.bind, Act.put, List.setIfInBounds_toArray, List.set_cons_zero, List.set_cons_succ]
              refine till_take 5 60 false (v := ?v5o) (by kernel_rfl) (by kernel_rfl) (by kernel_rfl) (by kernel_rfl) (by kernel_rfl) (fun _ _ _ h => h) ?hw5o S0 ?hy5o ?rest5o
              case hw5o => (simp only [List.getElem?_toArray, List.getElem?_cons_zero, List.getElem?_cons_succ, Option.elim]; rfl)
              case hy5o => (simp only [List.getElem?_toArray, List.getElem?_cons_zero, List.getElem?_cons_succ, Option.elim]; intro wx _; go_simp; with_reducible rfl)
              simp only [dstOf, List.getElem?_toArray, List.getElem?_cons_zero, List.getElem?_cons_succ, Option.bind, Act.put, List.setIfInBounds_toArray, List.set_cons_zero, List.set_cons_succ]
              refine till_take 6 60 false (v := ?v6o) (by kernel_rfl) (by kernel_rfl) (by kernel_rfl) (by kernel_rfl) (by kernel_rfl) (fun _ _ _ h => h) ?hw6o S0 ?hy6o ?rest6o
              case hw6o => (simp only [List.getElem?_toArray, List.getElem?_cons_zero, List.getElem?_cons_succ, Option.elim]; rfl)
              case hy6o => (simp only [List.getElem?_toArray, List.getElem?_cons_zero, List.getElem?_cons_succ, Option.elim]; intro wx _; go_simp; with_reducible rfl)
              simp only [dstOf, List.getElem?_toArray, List.getElem?_cons_zero, List.getElem?_cons_succ, Option.bind, Act.put, List.setIfInBounds_toArray, List.set_cons_zero, List.set_cons_succ]
              refine till_take 7 60 true (v := ?v7o) (by kernel_rfl) (by kernel_rfl) (by kernel_rfl) (by kernel_rfl) (by kernel_rfl) (fun _ _ _ h => h) ?hw7o S0 ?hy7o ?rest7o
              case hw7o => (simp only [List.getElem?_toArray, List.getElem?_cons_zero, List.getElem?_cons_succ, Option.elim]; rfl)
              case hy7o => (simp only [List.getElem?_toArray, List.getElem?_cons_zero, List.getElem?_cons_succ, Option.elim]; intro wx hx; have x0 := (hx trivial).1; have x1 := (hx trivial).2; go_simp; with_reducible rfl)
              simp only [dstOf, List.getElem?_toArray, List.getElem?_cons_zero, List.getElem?_cons_succ, Option.bind, Act.put, List.setIfInBounds_toArray, List.set_cons_zero, List.set_cons_succ]
              refine till_take 9 60 false (v := ?v9o) (by kernel_rfl) (by kernel_rfl) (by kernel_rfl) (by kernel_rfl) (by kernel_rfl) (fun _ _ _ h => h) ?hw9o S0 ?hy9o ?rest9o
              case hw9o => (simp only [List.getElem?_toArray, List.getElem?_cons_zero, List.getElem?_cons_succ, Option.elim]; rfl)
              case hy9o => (simp only [List.getElem?_toArray, List.getElem?_cons_zero, List.getElem?_cons_succ, Option.elim]; intro wx _; go_simp; with_reducible rfl)
              simp only [dstOf, List.getElem?_toArray, List.getElem?_cons_zero, List.getElem?_cons_succ, Option.bind, Act.put, List.setIfInBounds_toArray, List.set_cons_zero, List.set_cons_succ]
              refine till_take 10 60 false (v := ?v10o) (by kernel_rfl) (by kernel_rfl) (by kernel_rfl) (by kernel_rfl) (by kernel_rfl) (fun _ _ _ h => h) ?hw10o S0 ?hy10o ?rest10o
              case hw10o => (simp only [List.getElem?_toArray, List.getElem?_cons_zero, List.getElem?_cons_succ, Option.elim]; rfl)
              case hy10o => (simp only [List.getElem?_toArray, List.getElem?_cons_zero, List.getElem?_cons_succ, Option.elim]; intro wx _; go_simp; with_reducible rfl)
              simp only [dstOf, List.getElem?_toArray, List.getElem?_cons_zero, List.getElem?_cons_succ, Option.bind, Act.put, List.setIfInBounds_toArray, List.set_cons_zero, List.set_cons_succ]
              refine till_take 11 60 false (v := ?v11o) (by kernel_rfl) (by kernel_rfl) (by kernel_rfl) (by kernel_rfl) (by kernel_rfl) (fun _ _ _ h => h) ?hw11o S0 ?hy11o ?rest11o
              case hw11o => (simp only [List.getElem?_toArray, List.getElem?_cons_zero, List.getElem?_cons_succ, Option.elim]; rfl)
              case hy11o => (simp only [List.getElem?_toArray, List.getElem?_cons_zero, List.getElem?_cons_succ, Option.elim]; intro wx _; go_simp; with_reducible rfl)
              simp only [dstOf, List.getElem?_toArray, List.getElem?_cons_zero, List.getElem?_cons_succ, Option.bind, Act.put, List.setIfInBounds_toArray, List.set_cons_zero, List.set_cons_succ]
              refine till_take 12 60 false (v := ?v12o) (by kernel_rfl) (by kernel_rfl) (by kernel_rfl) (by kernel_rfl) (by kernel_rfl) (fun _ _ _ h => h) ?hw12o S0 ?hy12o ?rest12o
              case hw12o => (simp only [List.getElem?_toArray, List.getElem?_cons_zero, List.getElem?_cons_succ, Option.elim]; rfl)
              case hy12o => (simp only [List.getElem?_toArray, List.getElem?_cons_zero, List.getElem?_cons_succ, Option.elim]; intro wx _; go_simp; with_reducible rfl)
              simp only [dstOf, List.getElem?_toArray, List.getElem?_cons_zero, List.getElem?_cons_succ, Option.bind, Act.put, List.setIfInBounds_toArray, List.set_cons_zero, List.set_cons_succ]
              refine till_take 13 60 true (v := ?v13o) (by kernel_rfl) (by kernel_rfl) (by kernel_rfl) (by kernel_rfl) (by kernel_rfl) (fun _ _ _ h => h) ?hw13o S0 ?hy13o ?rest13o
              case hw13o => (simp only [List.getElem?_toArray, List.getElem?_cons_zero, List.getElem?_cons_succ, Option.elim]; rfl)
              case hy13o => (simp only [List.getElem?_toArray, List.getElem?_cons_zero, List.getElem?_cons_succ, Option.elim]; intro wx hx; have x0 := (hx trivial).1; have x1 := (hx trivial).2; go_simp; with_reducible rfl)
              simp only [dstOf, List.getElem?_toArray, List.getElem?_cons_zero, List.getElem?_cons_succ, Option.bind, Act.put, List.setIfInBounds_toArray, List.set_cons_zero, List.set_cons_succ]
              refine till_before 8 (by kernel_rfl) (fun K hK => ?_)
              simp only [List.getElem?_toArray, List.getElem?_cons_zero, List.getElem?_cons_succ, Option.elim]
              rw [if_pos (by rfl)]
              go_simp
              go_at_call 22
              refine (H1.out).mono ?_
              rintro e w6 ⟨v6, rfl, hv6, m6⟩
              refine hK.out _ _ (⟨below_cell S0.1 m6, below_cell S0.2 m6⟩) ?_
              clear hK K
              try simp only [Act.put, List.setIfInBounds_toArray, List.set_cons_zero, List.set_cons_succ]
              have MD := Lib.hid (MD.out.fresh m6)
              clear H1 S0
              have H1 := s_same hv6 (HPN.out.keep MD.out.below) (Nat.le_trans (par_len OK.out n.1) (by have := HGL.out; omega))
              rw [show decide (par G n.1 = n.2) = false from decide_eq_false hpe] at H1
              have H1 := Lib.hid H1
              clear m6 hv6
              refine till_step 14 (by kernel_rfl) (by kernel_rfl) (fun K hK => ?_)
              simp only [List.getElem?_toArray, List.getElem?_cons_zero, List.getElem?_cons_succ, Option.elim]
              rw [if_pos (by rfl)]
              go_simp
              go_at_call 21
              refine (H1.out).mono ?_
              rintro e w7 ⟨rfl, m7⟩
              refine hK.out _ _ ?_
              clear hK K
              try simp only [Act.put, List.setIfInBounds_toArray, List.set_cons_zero, List.set_cons_succ]
              have MD := Lib.hid (MD.out.fresh m7)
              clear H1 m7
              refine till_late 15 (v := ?v15o) (by kernel_rfl) (by kernel_rfl) (by kernel_rfl) (by kernel_rfl) (fun _ _ _ h => h) (by kernel_rfl) ?hw15o ?hy15o ?rest15o
              case hw15o => (simp only [List.getElem?_toArray, List.getElem?_cons_zero, List.getElem?_cons_succ, Option.elim]; rfl)
              case hy15o => (simp only [List.getElem?_toArray, List.getElem?_cons_zero, List.getElem?_cons_succ, Option.elim]; intro wx; go_simp; with_reducible rfl)
              simp only [dstOf, List.getElem?_toArray, List.getElem?_cons_zero, List.getElem?_cons_succ, Option.bind, Act.put, List.setIfInBounds_toArray, List.set_cons_zero, List.set_cons_succ]
              refine till_late 16 (v := ?v16o) (by kernel_rfl) (by kernel_rfl) (by kernel_rfl) (by kernel_rfl) (fun _ _ _ h => h) (by kernel_rfl) ?hw16o ?hy16o ?rest16o
              case hw16o => (simp only [List.getElem?_toArray, List.getElem?_cons_zero, List.getElem?_cons_succ, Option.elim]; rfl)
              case hy16o => (simp only [List.getElem?_toArray, List.getElem?_cons_zero, List.getElem?_cons_succ, Option.elim]; intro wx; go_simp; with_reducible rfl)
              simp only [dstOf, List.getElem?_toArray, List.getElem?_cons_zero, List.getElem?_cons_succ, Option.bind, Act.put, List.setIfInBounds_toArray, List.set_cons_zero, List.set_cons_succ]
              refine till_late 17 (v := ?v17o) (by kernel_rfl) (by kernel_rfl) (by kernel_rfl) (by kernel_rfl) (fun _ _ _ h => h) (by kernel_rfl) ?hw17o ?hy17o ?rest17o
              case hw17o => (simp only [List.getElem?_toArray, List.getElem?_cons_zero, List.getElem?_cons_succ, Option.elim]; rfl)
              case hy17o => (simp only [List.getElem?_toArray, List.getElem?_cons_zero, List.getElem?_cons_succ, Option.elim]; intro wx; go_simp; with_reducible rfl)
              simp only [dstOf, List.getElem?_toArray, List.getElem?_cons_zero, List.getElem?_cons_succ, Option.bind, Act.put, List.setIfInBounds_toArray, List.set_cons_zero, List.set_cons_succ]
              refine till_end (by kernel_rfl) ?_ _
              go_wp2
              go_loopw [10, 11] (fun ms i wr => ∃ m : Nat, m ≤ n.2.length ∧ i = .int .i64 m ∧ ms = .bool (miss G (n.2.take m)) ∧ OMem w1 wr [A.ob b G, A.ob c G]) (fun _ i _ => n.2.length - (intOf i).toNat)
              case atStart => exact ⟨0, Nat.zero_le _, rfl, rfl, MD.out⟩
              case round =>
                obtain ⟨m, hm, rfl, rfl, mi⟩ := hrel
                have MI := Lib.hid mi
                obtain ⟨lb2, off2, cap2, na2, nc2, h2, c0, c1, hp2⟩ := HV1.out.both mi.below HN.out
                cases h2
                by_cases hlt2 : m < n.2.length
                · obtain ⟨p, hp⟩ : ∃ p, n.2[m]? = some p := ⟨_, List.getElem?_eq_getElem hlt2⟩
                  have HMT := Lib.hid (miss_take (G := G) hp)
                  obtain ⟨lb3, off3, cap3, h3, _, hc3⟩ := (hp2.keep mi.below).form (by omega)
                  cases h3
                  have c2 := hc3 m p hp
                  have HH := A.has_ p mi (i := 1) rfl (by have := HGL.out; omega)
                  clear hp hc3 mi hp2
                  cases hms : miss G (n.2.take m) with
                  | true =>
                    rw [hms] at HMT
                    clear HH
                    go_wp2
                    go_roundw
                    case rel => exact ⟨m + 1, by omega, by go_num, by rw [HMT.out]; rfl, MI.out⟩
                    case measure => simp [intOf]; omega
                  | false =>
                    rw [hms] at HMT
                    cases hc : (ids G).contains p with
                    | true =>
                      rw [hc] at HH HMT
                      have HH := Lib.hid HH
                      clear hc hms
                      go_wp2_with (go_at_call 15; refine (HH.out).mono ?_; rintro e w7 ⟨rfl, m7⟩; refine Hid.out ?_)
                      refine Lib.hid ?_
                      have M7 := Lib.hid (MI.out.fresh m7)
                      clear m7
                      go_wp2
                      go_roundw
                      case rel => exact ⟨m + 1, by omega, by go_num, by rw [HMT.out]; rfl, M7.out⟩
                      case measure => simp [intOf]; omega
                    | false =>
                      rw [hc] at HH HMT
                      have HH := Lib.hid HH
                      clear hc hms
                      go_wp2_with (go_at_call 15; refine (HH.out).mono ?_; rintro e w7 ⟨rfl, m7⟩; refine Hid.out ?_)
                      refine Lib.hid ?_
                      have M7 := Lib.hid (MI.out.fresh m7)
                      clear m7
                      go_wp2
                      go_roundw
                      case rel => exact ⟨m + 1, by omega, by go_num, by rw [HMT.out]; rfl, M7.out⟩
                      case measure => simp [intOf]; omega
                · obtain rfl : m = n.2.length := by omega
                  rw [List.take_length]
                  have HA := A.add_ (n := n) mi (i := 0) rfl (hp2.keep mi.below) (by omega) (by have := HGL.out; omega)
                  clear mi hp2
                  have HADD := Lib.hid (add_twice (G := G) (n := n) hr hin hpe)
                  generalize miss G n.2 = ms
                  clear hr hin
                  rw [HADD.out] at HA
                  have HA := Lib.hid HA
                  go_wp2_with (go_at_call 12; refine (HA.out).mono ?_; rintro e w8 ⟨rfl, m8⟩; refine Hid.out ?_)
                  refine Lib.hid ?_
                  have M8 := Lib.hid (show OMem w1 w8 [A.ob b G, A.ob c G] from m8)
                  have HS := Lib.hid (same_both A m8 (i := 1) (j := 0) rfl rfl (by have := HGL.out; omega))
                  clear m8 HA
                  go_wp2_with (go_at_call 34; refine (HS.out).mono ?_; rintro e w9 ⟨rfl, m9⟩; refine Hid.out ?_)
                  refine Lib.hid ?_
                  have M9 := Lib.hid (M8.out.fresh m9)
                  clear m9 HS
                  go_wp2
                  go_roundw
                  case rel => exact ⟨k + 1, G, by omega, by go_num, Lib.hid (Nat.le_succ_of_le HGK.out), M9.out.take 1⟩
                  case measure => simp [intOf]; omega
          · rw [in_no hin] at HH
            have HH := Lib.hid HH
            go_wp2_with (go_at_call 15; refine (HH.out).mono ?_; rintro e w5 ⟨rfl, m5⟩; refine Hid.out ?_)
            refine Lib.hid ?_
            have M5 := Lib.hid (M4.out.fresh m5)
            have c0 := below_cell c0 m5
            have c1 := below_cell c1 m5
            clear m5 HH
            go_wp2
            go_quiet (fail)
            go_wp2
            go_loopw [10, 11] (fun ms i wr => ∃ m : Nat, m ≤ n.2.length ∧ i = .int .i64 m ∧ ms = .bool (miss G (n.2.take m)) ∧ OMem w1 wr [A.ob b G, A.ob c G]) (fun _ i _ => n.2.length - (intOf i).toNat)
            case atStart => exact ⟨0, Nat.zero_le _, rfl, rfl, M5.out.fresh (drewN_below _ _)⟩
            case round =>
              obtain ⟨m, hm, rfl, rfl, mi⟩ := hrel
              have MI := Lib.hid mi
              obtain ⟨lb2, off2, cap2, na2, nc2, h2, c0, c1, hp2⟩ := HV1.out.both mi.below HN.out
              cases h2
              by_cases hlt2 : m < n.2.length
              · obtain ⟨p, hp⟩ : ∃ p, n.2[m]? = some p := ⟨_, List.getElem?_eq_getElem hlt2⟩
                have HMT := Lib.hid (miss_take (G := G) hp)
                obtain ⟨lb3, off3, cap3, h3, _, hc3⟩ := (hp2.keep mi.below).form (by omega)
                cases h3
                have c2 := hc3 m p hp
                have HH := A.has_ p mi (i := 1) rfl (by have := HGL.out; omega)
                clear hp hc3 mi hp2
                cases hms : miss G (n.2.take m) with
                | true =>
                  rw [hms] at HMT
                  clear HH
                  go_wp2
                  go_roundw
                  case rel => exact ⟨m + 1, by omega, by go_num, by rw [HMT.out]; rfl, MI.out⟩
                  case measure => simp [intOf]; omega
                | false =>
                  rw [hms] at HMT
                  cases hc : (ids G).contains p with
                  | true =>
                    rw [hc] at HH HMT
                    have HH := Lib.hid HH
                    clear hc hms
                    go_wp2_with (go_at_call 15; refine (HH.out).mono ?_; rintro e w7 ⟨rfl, m7⟩; refine Hid.out ?_)
                    refine Lib.hid ?_
                    have M7 := Lib.hid (MI.out.fresh m7)
                    clear m7
                    go_wp2
                    go_roundw
                    case rel => exact ⟨m + 1, by omega, by go_num, by rw [HMT.out]; rfl, M7.out⟩
                    case measure => simp [intOf]; omega
                  | false =>
                    rw [hc] at HH HMT
                    have HH := Lib.hid HH
                    clear hc hms
                    go_wp2_with (go_at_call 15; refine (HH.out).mono ?_; rintro e w7 ⟨rfl, m7⟩; refine Hid.out ?_)
                    refine Lib.hid ?_
                    have M7 := Lib.hid (MI.out.fresh m7)
                    clear m7
                    go_wp2
                    go_roundw
                    case rel => exact ⟨m + 1, by omega, by go_num, by rw [HMT.out]; rfl, M7.out⟩
                    case measure => simp [intOf]; omega
              · obtain rfl : m = n.2.length := by omega
                rw [List.take_length]
                have HA := A.add_ (n := n) mi (i := 0) rfl (hp2.keep mi.below) (by omega) (by have := HGL.out; omega)
                clear mi hp2
                cases hms : miss G n.2 with
                | true =>
                  have HADD := Lib.hid (add_miss (G := G) (n := n) hr hin (fun q => by rw [miss_iff.2 q] at hms; cases hms))
                  clear hms hr hin
                  rw [HADD.out] at HA
                  have HA := Lib.hid HA
                  go_wp2_with (go_at_call 12; refine (HA.out).mono ?_; rintro e w8 ⟨rfl, m8⟩; refine Hid.out ?_)
                  refine Lib.hid ?_
                  have M8 := Lib.hid (show OMem w1 w8 [A.ob b G, A.ob c G] from m8)
                  have HS := Lib.hid (same_both A m8 (i := 1) (j := 0) rfl rfl (by have := HGL.out; omega))
                  clear m8 HA
                  go_wp2_with (go_at_call 34; refine (HS.out).mono ?_; rintro e w9 ⟨rfl, m9⟩; refine Hid.out ?_)
                  refine Lib.hid ?_
                  have M9 := Lib.hid (M8.out.fresh m9)
                  clear m9 HS
                  go_wp2
                  go_roundw
                  case rel => exact ⟨k + 1, G, by omega, by go_num, Lib.hid (Nat.le_succ_of_le HGK.out), M9.out.take 1⟩
                  case measure => simp [intOf]; omega
                | false =>
                  have HADD := Lib.hid (add_new (G := G) (n := n) hr hin (miss_iff.1 hms))
                  have h9 := add_again OK.out (n := n) (by rw [HADD.out])
                  rw [HADD.out] at h9
                  have AG := Lib.hid (show add (ins n G) n = (0, ins n G) ∧ (ids (ins n G)).contains n.1 = true from ⟨h9.1, in_yes h9.2⟩)
                  have HLL := Lib.hid (show (ins n G).length ≤ G.length + 1 by rw [ins_len]; exact Nat.le_refl _)
                  have HLN := Lib.hid (show ((ins n G).length : Int) = (G.length : Int) + 1 by rw [ins_len]; rfl)
                  clear hms hr hin h9
                  rw [HADD.out] at HA
                  have HA := Lib.hid HA
                  have hgl := HGL.out
                  go_wp2_with (go_at_call 12; refine (HA.out).mono ?_; rintro e w8 ⟨rfl, m8⟩; refine Hid.out ?_)
                  refine Lib.hid ?_
                  have M8 := Lib.hid (show OMem w1 w8 [A.ob b (ins n G), A.ob c G] from m8)
                  obtain ⟨lb4, off4, cap4, na4, nc4, h4, c4, c5, hp4⟩ := HV1.out.both m8.below HN.out
                  cases h4
                  have HH := A.has_ n.1 m8 (i := 0) rfl (by have := HLL.out; omega)
                  rw [AG.out.2] at HH
                  have HH := Lib.hid HH
                  clear m8 HA c0 c1
                  go_wp2_with (go_at_call 15; refine (HH.out).mono ?_; rintro e w9 ⟨rfl, m9⟩; refine Hid.out ?_)
                  refine Lib.hid ?_
                  have M9 := Lib.hid (M8.out.fresh m9)
                  have c4 := below_cell c4 m9
                  have c5 := below_cell c5 m9
                  have HA := A.add_ (n := n) M9.out (i := 0) rfl (hp4.keep M9.out.below) (by omega) (by have := HLL.out; omega)
                  rw [AG.out.1] at HA
                  have HA := Lib.hid HA
                  clear m9 HH hp4
                  go_wp2_with (go_at_call 12; refine (HA.out).mono ?_; rintro e w10 ⟨rfl, m10⟩; refine Hid.out ?_)
                  refine Lib.hid ?_
                  have M10 := Lib.hid (show OMem w1 w10 [A.ob b (ins n G), A.ob c G] from m10)
                  clear m10 HA c4 c5
                  have HL := A.len_ M10.out (i := 0) rfl (by have := HLL.out; omega)
                  rw [HLN.out] at HL
                  have HL := Lib.hid HL
                  go_wp2_with (go_at_call 14; refine (HL.out).mono ?_; rintro e w11 ⟨rfl, m11⟩; refine Hid.out ?_)
                  refine Lib.hid ?_
                  have M11 := Lib.hid (M10.out.fresh m11)
                  have HL := Lib.hid (A.len_ M11.out (i := 1) rfl (by omega))
                  clear m11
                  go_wp2_with (go_at_call 14; refine (HL.out).mono ?_; rintro e w12 ⟨rfl, m12⟩; refine Hid.out ?_)
                  refine Lib.hid ?_
                  have M12 := Lib.hid (M11.out.fresh m12)
                  clear m12 HL
                  go_wp2
                  go_roundw
                  case rel => exact ⟨k + 1, (ins n G), by omega, by go_num, Lib.hid (by have := HLL.out; have := HGK.out; omega), M12.out.take 1⟩
                  case measure => simp [intOf]; omega
      · obtain rfl : k = l.length := by omega
        have BF := Lib.hid (B1.out.trans (m.below.mono B1.out.size))
        clear m
        go_wp2
        go_ret
        exact ⟨rfl, BF.out⟩
end Go.Proofs.Ytaecihkhcedijaa
