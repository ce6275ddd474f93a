/- The reference's graph: what it reads. -/
import Derived.Test.YtihnnffhpgbgjaaGOrders
namespace Go.Proofs.Ytihnnffhpgbgjaa
open Go.RowKit Go.Maps Go.ChangeMaps Go.MapKept
open Gp
attribute [local go_sem ↓] Go.wp_at_zero Go.wp_at_succ

/-- The reference's graph, as it is read: a pointer to a list of nodes. -/
structure RAt (w : World) (r : Nat) (G : List Nd) : Prop where
  ok : Ok G
  at_ : ∃ v, w.cell? ⟨r, 0, none⟩ = some v ∧ NodesAt w v G
section
variable {w w' : World} {r : Nat} {G : List Nd}
theorem RAt.keep (h : RAt w r G) (hb : Below w.heap.size w w') : RAt w' r G := by
  obtain ⟨v, h1, h2⟩ := h.at_
  exact ⟨h.ok, v, below_cell h1 hb, h2.keep hb⟩
theorem ids_at {k : Nat} {n : Nd} (h : G[k]? = some n) : (ids G)[k]? = some n.1 := by unfold ids; rw [List.getElem?_map, h]; rfl
theorem par_at (ok : Ok G) {k : Nat} {n : Nd} (h : G[k]? = some n) : par G n.1 = n.2 := par_of ok.asc (List.mem_of_getElem? h)
set_option maxHeartbeats 1000000 in
theorem rat_any (h : RAt w r G) (x : Int) (hG : G.length ≤ 100) : Calls Try.prog 12 #[.pointer (some ⟨r, 0, none⟩), .int .i64 x] w fun e w' =>
    ∃ k : Int, e = .returned (.int .i64 k) ∧ ((k = -1 ∧ x ∉ ids G) ∨ ∃ (i : Nat) (n : Nd), k = (i : Int) ∧ G[i]? = some n ∧ n.1 = x) ∧ w' = w := by
  obtain ⟨v, c0, hv⟩ := h.at_
  have HV := Lib.hid hv
  obtain ⟨a, cap, rfl, -⟩ := hv
  clear h
  go_enter Try.func12, Try.ntmps12
  go_wp2
  go_loopw [5] (fun i wr => ∃ k : Nat, k ≤ G.length ∧ i = .int .i64 k ∧ Hid (x ∉ (ids G).take k) ∧ w = wr) (fun i _ => G.length - (RowKit.intOf i).toNat)
  case atStart => exact ⟨0, Nat.zero_le _, rfl, Lib.hid (by simp), rfl⟩
  case round =>
    obtain ⟨k, hk, rfl, HN, rfl⟩ := hrel
    by_cases hlt : k < G.length
    · obtain ⟨n, hn⟩ : ∃ n, G[k]? = some n := ⟨_, List.getElem?_eq_getElem hlt⟩
      obtain ⟨b1, off1, cap1, pa, pc, h1, _, c1, _, _⟩ := HV.out.at_ hn
      cases h1
      by_cases hx : n.1 = x
      · have HI := Lib.hid hn
        subst hx
        clear hn
        go_wp2
        go_ret
        exact ⟨k, rfl, .inr ⟨k, n, rfl, HI.out, rfl⟩, rfl⟩
      · have HN2 := Lib.hid (show x ∉ (ids G).take (k + 1) by
          rw [List.take_add_one, ids_at hn]
          intro q
          rcases List.mem_append.1 q with q | q
          · exact HN.out q
          · simp at q; exact hx q.symm)
        clear hn
        go_wp2
        go_roundw
        case rel => exact ⟨k + 1, by omega, by go_num, HN2, by trivial⟩
        case measure => simp [RowKit.intOf]; omega
    · obtain rfl : k = G.length := by omega
      have hn := HN.out
      rw [List.take_of_length_le (by simp [ids])] at hn
      have HN2 := Lib.hid hn
      clear hn
      go_wp2
      go_ret
      exact ⟨-1, rfl, .inl ⟨rfl, HN2.out⟩, rfl⟩
set_option maxHeartbeats 1000000 in
theorem rparents_any (h : RAt w r G) (x : Int) (hG : G.length ≤ 100) : Calls Try.prog 19 #[.pointer (some ⟨r, 0, none⟩), .int .i64 x] w fun e w' => ∃ v, e = .returned v ∧ NumsAt w v (par G x) ∧ w' = w := by
  have HA := Lib.hid (rat_any h x hG)
  have OK := Lib.hid h.ok
  obtain ⟨v, c0, hv⟩ := h.at_
  have HV := Lib.hid hv
  obtain ⟨a, cap, rfl, -⟩ := hv
  clear h
  go_enter Try.func19, Try.ntmps19
  go_wp2_with (go_at_call 12; refine (HA.out).mono ?_; rintro e w2 ⟨k, rfl, hk, rfl⟩; refine Hid.out ?_)
  refine Lib.hid ?_
  clear HA
  rcases hk with ⟨rfl, hx⟩ | ⟨i, n, rfl, hn, rfl⟩
  · have HX := Lib.hid (show NumsAt w2 (.slice none 0 0) (par G x) by rw [par_no hx]; exact NumsAt.nil _)
    clear hx
    go_wp2
    go_ret
    exact ⟨_, rfl, HX.out, rfl⟩
  · have hlt := (List.getElem?_eq_some_iff.1 hn).1
    obtain ⟨b1, off1, cap1, pa, pc, h1, _, _, c1, hp⟩ := HV.out.at_ hn
    cases h1
    have HX := Lib.hid (show NumsAt w2 (.slice pa n.2.length pc) (par G n.1) by rw [par_at OK.out hn]; exact hp)
    clear hn hp
    go_wp2
    go_ret
    exact ⟨_, rfl, HX.out, rfl⟩
end
end Go.Proofs.Ytihnnffhpgbgjaa
