/- The statements' own functions over graphs: known, all. -/
import Derived.Test.YtihnnffhpgbgjaaGApi
namespace Go.Proofs.Ytihnnffhpgbgjaa
open Go.RowKit Go.Maps Go.ChangeMaps Go.MapKept
open Gp
attribute [local go_sem ↓] Go.wp_at_zero Go.wp_at_succ

theorem NodesAt.both {w0 w : World} {v : Value} {l : List Nd} (h : NodesAt w0 v l) (hb : Below w0.heap.size w0 w) {k : Nat} {n : Nd} (hk : l[k]? = some n) : ∃ b off cap pa pc, v = .slice (some ⟨b, off, none⟩) l.length cap ∧
    w.cell? ⟨b, off + k * 2, none⟩ = some (.int .i64 n.1) ∧ w.cell? ⟨b, off + k * 2 + 1, none⟩ = some (.slice pa n.2.length pc) ∧ NumsAt w0 (.slice pa n.2.length pc) n.2 := by
  obtain ⟨b, off, cap, pa, pc, hv, _, c0, c1, hp⟩ := h.at_ hk
  exact ⟨b, off, cap, pa, pc, hv, below_cell c0 hb, below_cell c1 hb, hp⟩
theorem get_end {α : Type} {l : List α} {a : α} : (l ++ [a])[l.length]? = some a := List.getElem?_concat_length
theorem set_end {α : Type} {l : List α} {a b : α} : (l ++ [a]).set l.length b = l ++ [b] := by rw [List.set_append_right _ _ (Nat.le_refl _), Nat.sub_self]; rfl
section
variable {w0 w : World} {os : List Ob} {i b : Nat} {G : List Nd} (A : GApi)
set_option maxHeartbeats 2000000 in
set_option maxRecDepth 100000 in
theorem known_any {v : Value} {l : List Nd} (h : OMem w0 w os) (hv : NodesAt w0 v l) (hf : ∀ n ∈ l, n.2.length ≤ 100) (hl : l.length ≤ 90) :
    Calls Try.prog 31 #[v] w fun e w' => ∃ b, e = .returned (.pointer (some ⟨b, 0, none⟩)) ∧ OMem w0 w' (os ++ [A.ob b (known l)]) := by
  have HV := Lib.hid hv
  have HF := Lib.hid hf
  have HN := Lib.hid (A.new_ h)
  obtain ⟨a, cap, rfl, -⟩ := hv
  clear hf
  go_enter Try.func31, Try.ntmps31
  go_wp2_with (go_at_call 7; refine (HN.out).mono ?_; rintro e w1 ⟨b, rfl, m1⟩; refine Hid.out ?_)
  refine Lib.hid ?_
  have M1 := Lib.hid m1
  clear m1 HN
  go_wp2
  go_loopw [4] (fun i wr => ∃ (r f : Nat) (G : List Nd), r + f = l.length + 1 ∧ i = .int .i64 (r : Int) ∧ Hid (rounds l f G = known l) ∧ Hid (Ok G ∧ ∀ n ∈ G, n ∈ l) ∧ OMem w0 wr (os ++ [A.ob b G])) (fun i _ => l.length + 1 - (intOf i).toNat)
  case atStart => exact ⟨0, l.length + 1, [], by omega, rfl, Lib.hid rfl, Lib.hid ⟨ok_nil, fun _ h => by cases h⟩, M1.out⟩
  case round =>
    obtain ⟨r, f, G, hrf, rfl, HR, HO, M⟩ := hrel
    have HM := Lib.hid M
    have hlen : G.length ≤ l.length := few_nodes HO.out.1 HO.out.2
    by_cases hrl : r ≤ l.length
    · obtain ⟨f, rfl⟩ : ∃ g, f = g + 1 := ⟨f - 1, by omega⟩
      have HL := Lib.hid (A.len_ HM.out get_end (by omega))
      have hrl2 : (r : Int) ≤ (l.length : Int) := by omega
      clear M
      go_wp2_with (go_at_call 10; refine (HL.out).mono ?_; rintro e w2 ⟨rfl, m2⟩; refine Hid.out ?_)
      refine Lib.hid ?_
      have M2 := Lib.hid (HM.out.fresh m2)
      clear m2 HL
      go_wp2
      go_loopw [6] (fun i wr => ∃ k : Nat, k ≤ l.length ∧ i = .int .i64 (k : Int) ∧ OMem w0 wr (os ++ [A.ob b (adds G (l.take k))])) (fun i _ => l.length - (intOf i).toNat)
      case atStart => exact ⟨0, Nat.zero_le _, rfl, M2.out⟩
      case round =>
        obtain ⟨k, hk, rfl, M⟩ := hrel
        have HM3 := Lib.hid M
        by_cases hlt : k < l.length
        · obtain ⟨n, hn⟩ : ∃ n, l[k]? = some n := ⟨_, List.getElem?_eq_getElem hlt⟩
          obtain ⟨lb, off, cap', pa, pc, h1, c0, c1, hp⟩ := HV.out.both M.below hn
          cases h1
          have hlen : (adds G (l.take k)).length ≤ 100 := by
            have := few_nodes (adds_ok HO.out.1 (l.take k)) (adds_from (l := l) HO.out.2 fun n hn => List.mem_of_mem_take hn)
            omega
          have HA := Lib.hid (A.add_ (n := n) HM3.out get_end (hp.keep M.below) (HF.out n (List.mem_of_getElem? hn)) hlen)
          have HT := Lib.hid (adds_take G hn)
          clear M hn hp
          go_wp2_with (go_at_call 8; refine (HA.out).mono ?_; rintro e w3 ⟨rfl, m3⟩; refine Hid.out ?_)
          refine Lib.hid ?_
          have M3 := Lib.hid m3
          clear m3 HA
          go_wp2
          go_roundw
          case rel =>
            refine ⟨k + 1, by omega, by go_num, ?_⟩
            rw [HT.out]
            have := M3.out
            rwa [set_end] at this
          case measure => simp [intOf]; omega
        · obtain rfl : k = l.length := by omega
          rw [List.take_length] at M
          have HM4 := Lib.hid M
          have hok2 := adds_ok HO.out.1 l
          have hin2 := adds_from (l := l) HO.out.2 (fun n hn => hn : ∀ n ∈ l, n ∈ l)
          have hlen2 := few_nodes hok2 hin2
          have HL := Lib.hid (A.len_ HM4.out get_end (by omega))
          have hrr := HR.out
          unfold rounds at hrr
          clear M HM3
          by_cases he : (adds G l).length = G.length
          · rw [if_pos he] at hrr
            have HRR := Lib.hid hrr
            have he2 : ((adds G l).length : Int) = (G.length : Int) := by omega
            clear he hrr
            go_wp2_with (go_at_call 10; refine (HL.out).mono ?_; rintro e w4 ⟨rfl, m4⟩; refine Hid.out ?_)
            refine Lib.hid ?_
            have M4 := Lib.hid (HM4.out.fresh m4)
            clear m4
            go_wp2
            go_ret
            refine ⟨b, rfl, ?_⟩
            have := M4.out
            rwa [HRR.out] at this
          · rw [if_neg he] at hrr
            have HRR := Lib.hid hrr
            have HO2 := Lib.hid (And.intro hok2 hin2)
            have he2 : ¬ ((adds G l).length : Int) = (G.length : Int) := by omega
            clear he hok2 hin2 hrr
            go_wp2_with (go_at_call 10; refine (HL.out).mono ?_; rintro e w4 ⟨rfl, m4⟩; refine Hid.out ?_)
            refine Lib.hid ?_
            have M4 := Lib.hid (HM4.out.fresh m4)
            clear m4
            go_wp2
            go_roundw
            case rel => exact ⟨r + 1, f, adds G l, by omega, by go_num, HRR, HO2, M4.out⟩
            case measure => simp [intOf]; omega
    · obtain rfl : f = 0 := by omega
      have HRR := Lib.hid (show G = known l from HR.out)
      have hrl2 : ¬ (r : Int) ≤ (l.length : Int) := by omega
      clear M
      go_wp2
      go_ret
      refine ⟨b, rfl, ?_⟩
      have := HM.out
      rwa [HRR.out] at this
set_option maxHeartbeats 2000000 in
set_option maxRecDepth 100000 in
theorem all_own {v : Value} {l : List Nd} (h : OMem w0 w os) (hi : os[i]? = some (A.ob b G)) (hG : G.length ≤ 100) (hv : NodesAt w v l) (hl : l.length ≤ 100) :
    Calls Try.prog 32 #[.pointer (some ⟨b, 0, none⟩), v] w fun e w' => ∃ a c, e = .returned (.slice a (all G l).length c) ∧ OMem w w' [.row 3 1 (.slice a (all G l).length c) (all G l).length (intVs (all G l))] := by
  have HV := Lib.hid hv
  have H := Lib.hid h
  have HI := Lib.hid hi
  obtain ⟨a, cap, rfl, -⟩ := hv
  clear h hi
  go_enter Try.func32, Try.ntmps32
  go_wp2
  go_loopw [5, 6] (fun x i wr => ∃ (k : Nat), k ≤ l.length ∧ i = .int .i64 (k : Int) ∧ OMem w wr [.row 3 1 x (all G (l.take k)).length (intVs (all G (l.take k)))]) (fun _ i _ => l.length - (intOf i).toNat)
  case atStart => exact ⟨0, Nat.zero_le _, rfl, (OMem.start w).rowNil _ _⟩
  case round =>
    obtain ⟨k, hk, rfl, M⟩ := hrel
    by_cases hlt : k < l.length
    · obtain ⟨n, hn⟩ : ∃ n, l[k]? = some n := ⟨_, List.getElem?_eq_getElem hlt⟩
      obtain ⟨lb, off, cap', pa, pc, h1, c0, -, -⟩ := HV.out.both M.below hn
      cases h1
      obtain ⟨xa, xc, rfl⟩ := own_form (M.rowAt (i := 0) rfl)
      have HH := Lib.hid (A.has_ n.1 (H.out.fresh M.below) HI.out hG)
      have hsm := all_small G (l.take k)
      rw [List.length_take] at hsm
      have HAT := Lib.hid (all_take G hn)
      have HM := Lib.hid M
      have HC := Lib.hid (fun wx (hx : Below wr.heap.size wr wx) => below_cell c0 hx)
      clear hn M
      cases hin : (ids G).contains n.1 with
      | false =>
        rw [hin] at HH
        have HN := Lib.hid (show all G (l.take (k + 1)) = all G (l.take k) by
          rw [HAT.out, if_neg]
          rintro ⟨q, _⟩
          rw [← Bool.not_eq_true, List.contains_iff_mem] at hin
          exact hin q)
        clear hin HAT
        go_wp2_with (go_at_call 11; refine (HH.out).mono ?_; rintro e w2 ⟨rfl, m2⟩; refine Hid.out ?_)
        refine Lib.hid ?_
        have M2 := Lib.hid (HM.out.fresh m2)
        clear m2 HH
        go_wp2
        go_roundw
        case rel => exact ⟨k + 1, by omega, by go_num, by rw [HN.out]; exact M2.out⟩
        case measure => simp [intOf]; omega
      | true =>
        rw [hin] at HH
        rw [List.contains_iff_mem] at hin
        go_wp2_with (go_at_call 11; refine (HH.out).mono ?_; rintro e w2 ⟨rfl, m2⟩; refine Hid.out ?_)
        refine Lib.hid ?_
        have M2 := HM.out.fresh m2
        have c2 := HC.out _ m2
        have HS := s_has n.1 (NumsAt.of_own (M2.rowAt (i := 0) rfl)) (by omega)
        have HM2 := Lib.hid M2
        clear m2 M2 HH
        cases ho : (all G (l.take k)).contains n.1 with
        | true =>
          rw [ho] at HS
          have HS := Lib.hid HS
          have HN := Lib.hid (show all G (l.take (k + 1)) = all G (l.take k) by
            rw [HAT.out, if_neg]
            rintro ⟨_, q⟩
            rw [List.contains_iff_mem] at ho
            exact q ho)
          clear ho hin HAT
          go_wp2_with (go_at_call 41; refine (HS.out).mono ?_; rintro e w3 ⟨rfl, rfl⟩; refine Hid.out ?_)
          refine Lib.hid ?_
          go_wp2
          go_roundw
          case rel => exact ⟨k + 1, by omega, by go_num, by rw [HN.out]; exact HM2.out⟩
          case measure => simp [intOf]; omega
        | false =>
          rw [ho] at HS
          have HS := Lib.hid HS
          have HN := Lib.hid (show all G (l.take (k + 1)) = all G (l.take k) ++ [n.1] by
            rw [HAT.out, if_pos]
            rw [← Bool.not_eq_true, List.contains_iff_mem] at ho
            exact ⟨hin, ho⟩)
          obtain ⟨ya, yc, w5, r5, m5⟩ := HM2.out.pushN (i := 0) rfl n.1 (by omega)
          have R5 := Lib.hid r5
          have M5 := Lib.hid (show OMem w w5 [.row 3 1 (.slice ya ((all G (l.take k)).length + 1) yc) ((all G (l.take k)).length + 1) (intVs (all G (l.take k) ++ [n.1]))] from m5)
          clear ho hin HAT r5 m5
          go_wp2_with (go_at_call 41; refine (HS.out).mono ?_; rintro e w3 ⟨rfl, rfl⟩; refine Hid.out ?_)
          refine Lib.hid ?_
          go_wp2_with (at_builtin; refine Hid.out ?_)
          refine Lib.hid ?_
          refine Lib.wpList_append_run _ rfl _ _ _ _ rfl _ _ rfl rfl _ _ R5.out ?_
          go_wp2
          go_roundw
          case rel => exact ⟨k + 1, by omega, by go_num, by rw [HN.out, List.length_append]; exact M5.out⟩
          case measure => simp [intOf]; omega
    · obtain rfl : k = l.length := by omega
      rw [List.take_length] at M
      obtain ⟨ta, tc, rfl⟩ := own_form (M.rowAt (i := 0) rfl)
      have HM := Lib.hid M
      clear M
      go_wp2
      go_ret
      exact ⟨_, _, rfl, HM.out⟩
theorem all_any {v : Value} {l : List Nd} (h : OMem w0 w os) (hi : os[i]? = some (A.ob b G)) (hG : G.length ≤ 100) (hv : NodesAt w v l) (hl : l.length ≤ 100) :
    Calls Try.prog 32 #[.pointer (some ⟨b, 0, none⟩), v] w (Gives w (all G l)) :=
  (all_own A h hi hG hv hl).mono fun _ _ ⟨_, _, h, m⟩ => ⟨_, h, NumsAt.of_own (m.rowAt (i := 0) rfl), m.below⟩
/-- A row that was made over a memory is an object of it. -/
theorem OMem.overRow {w0 w w' : World} {os : List Ob} {e : TypeId} {size n : Nat} {v : Value} {xs : List Value} (h : OMem w0 w os) (k : OMem w w' [.row e size v n xs]) : OMem w0 w' (os ++ [.row e size v n xs]) := by
  obtain ⟨lab, hk⟩ := k
  obtain ⟨B, S, hq, hl, _⟩ := hk.at_ 0 _ rfl
  refine h.make hk.und.below hq (fun x hx => ?_) fun x hx => (hq.2.2 x hx).elim
  by_cases hx' : x < w.heap.size
  · have h1 := hk.und.labs x hx'
    have h2 := hl x hx
    omega
  · omega
end
end Go.Proofs.Ytihnnffhpgbgjaa
