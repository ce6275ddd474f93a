/- What the walks of layer 7 ask of package graph; the statements' own functions over it: made, node, known, all. -/
import Derived.Test.YtihnnffhpgbgjaaGAux
namespace Go.Proofs.Ytihnnffhpgbgjaa
open Go.RowKit Go.Maps Go.ChangeMaps Go.MapKept
open Gp
attribute [local go_sem ↓] Go.wp_at_zero Go.wp_at_succ

/-- What a call that only reads leaves. -/
def Reads (w : World) (r : Value) (e : Ending) (w' : World) : Prop := e = .returned r ∧ Below w.heap.size w w'
/-- .. that returns numbers. -/
def Gives (w : World) (l : List Int) (e : Ending) (w' : World) : Prop := ∃ v, e = .returned v ∧ NumsAt w' v l ∧ Below w.heap.size w w'
/-- The contracts of package graph. -/
structure GApi where
  ob : Nat → List Nd → Ob
  ok : ∀ {w0 w : World} {os : List Ob} {i b : Nat} {G : List Nd}, OMem w0 w os → os[i]? = some (ob b G) → Ok G
  new_ : ∀ {w0 w : World} {os : List Ob}, OMem w0 w os → Calls Try.prog 7 #[] w fun e w' => ∃ b, e = .returned (.pointer (some ⟨b, 0, none⟩)) ∧ OMem w0 w' (os ++ [ob b []])
  add_ : ∀ {w0 w : World} {os : List Ob} {i b : Nat} {G : List Nd} {pv : Value} {n : Nd}, OMem w0 w os → os[i]? = some (ob b G) → NumsAt w pv n.2 → n.2.length ≤ 100 → G.length ≤ 100 →
    Calls Try.prog 8 #[.pointer (some ⟨b, 0, none⟩), .agg #[.int .i64 n.1, pv]] w fun e w' => e = .returned (.int .i64 (add G n).1) ∧ OMem w0 w' (os.set i (ob b (add G n).2))
  len_ : ∀ {w0 w : World} {os : List Ob} {i b : Nat} {G : List Nd}, OMem w0 w os → os[i]? = some (ob b G) → G.length ≤ 100 → Calls Try.prog 10 #[.pointer (some ⟨b, 0, none⟩)] w (Reads w (.int .i64 (G.length : Int)))
  has_ : ∀ {w0 w : World} {os : List Ob} {i b : Nat} {G : List Nd} (x : Int), OMem w0 w os → os[i]? = some (ob b G) → G.length ≤ 100 → Calls Try.prog 11 #[.pointer (some ⟨b, 0, none⟩), .int .i64 x] w (Reads w (.bool ((ids G).contains x)))
  level_ : ∀ {w0 w : World} {os : List Ob} {i b : Nat} {G : List Nd} (x : Int), OMem w0 w os → os[i]? = some (ob b G) → G.length ≤ 100 → Calls Try.prog 13 #[.pointer (some ⟨b, 0, none⟩), .int .i64 x] w (Reads w (.int .i64 (lev G x)))
  before_ : ∀ {w0 w : World} {os : List Ob} {i b : Nat} {G : List Nd} (x y : Int), OMem w0 w os → os[i]? = some (ob b G) → G.length ≤ 100 → Calls Try.prog 15 #[.pointer (some ⟨b, 0, none⟩), .int .i64 x, .int .i64 y] w (Reads w (.bool (ancB G x y)))
  parents_ : ∀ {w0 w : World} {os : List Ob} {i b : Nat} {G : List Nd} (x : Int), OMem w0 w os → os[i]? = some (ob b G) → G.length ≤ 100 → Calls Try.prog 18 #[.pointer (some ⟨b, 0, none⟩), .int .i64 x] w (Gives w (par G x))
  past_ : ∀ {w0 w : World} {os : List Ob} {i b : Nat} {G : List Nd} (x : Int), OMem w0 w os → os[i]? = some (ob b G) → G.length ≤ 100 → Calls Try.prog 20 #[.pointer (some ⟨b, 0, none⟩), .int .i64 x] w (Gives w (past G x))
  down_ : ∀ {w0 w : World} {os : List Ob} {i b : Nat} {G : List Nd} {v : Value} {xs : List Int}, OMem w0 w os → os[i]? = some (ob b G) → G.length ≤ 100 → NumsAt w v xs → xs.length ≤ 1000 → Calls Try.prog 26 #[.pointer (some ⟨b, 0, none⟩), v] w (Gives w (down G xs))
  heads_ : ∀ {w0 w : World} {os : List Ob} {i b : Nat} {G : List Nd}, OMem w0 w os → os[i]? = some (ob b G) → G.length ≤ 100 → Calls Try.prog 22 #[.pointer (some ⟨b, 0, none⟩)] w (Gives w (heads G))
  sorted_ : ∀ {w0 w : World} {os : List Ob} {i b : Nat} {G : List Nd} {v : Value} {xs : List Int}, OMem w0 w os → os[i]? = some (ob b G) → G.length ≤ 100 → NumsAt w v xs → xs.length ≤ 1000 → Calls Try.prog 28 #[.pointer (some ⟨b, 0, none⟩), v] w (Gives w (sorted G xs))
  same_ : ∀ {w0 w : World} {os : List Ob} {i j b c : Nat} {G H : List Nd}, OMem w0 w os → os[i]? = some (ob b G) → os[j]? = some (ob c H) → G.length ≤ 100 → H.length ≤ 100 → Calls Try.prog 30 #[.pointer (some ⟨b, 0, none⟩), .pointer (some ⟨c, 0, none⟩)] w (Reads w (.bool (decide (G = H))))
  sameNil : ∀ {w0 w : World} {os : List Ob} {i b : Nat} {G : List Nd}, OMem w0 w os → os[i]? = some (ob b G) → G.length ≤ 100 → Calls Try.prog 30 #[.pointer (some ⟨b, 0, none⟩), .pointer none] w (Reads w (.bool false))
  restrict_ : ∀ {w0 w : World} {os : List Ob} {i b : Nat} {G : List Nd} {v : Value} {xs : List Int}, OMem w0 w os → os[i]? = some (ob b G) → G.length ≤ 100 → NumsAt w v xs → xs.length ≤ 1000 →
    Calls Try.prog 24 #[.pointer (some ⟨b, 0, none⟩), v] w fun e w' => ∃ c, e = .returned (.pointer (some ⟨c, 0, none⟩)) ∧ Below w.heap.size w w' ∧ OMem w0 w' (os ++ [ob c (restrict G xs)])
  copy_ : ∀ {w0 w : World} {os : List Ob} {i b : Nat} {G : List Nd}, OMem w0 w os → os[i]? = some (ob b G) → G.length ≤ 100 →
    Calls Try.prog 33 #[.pointer (some ⟨b, 0, none⟩)] w fun e w' => ∃ c, e = .returned (.pointer (some ⟨c, 0, none⟩)) ∧ Below w.heap.size w w' ∧ OMem w0 w' (os ++ [ob c G])
section
variable {w0 w : World} {os : List Ob} {i b : Nat} {G : List Nd} (A : GApi)
theorem node_any (x : Int) (a : Option Addr) (n c : Nat) (w : World) : Calls Try.prog 36 #[.int .i64 x, .slice a n c] w fun e w' => e = .returned (.agg #[.int .i64 x, .slice a n c]) ∧ Below w.heap.size w w' := by
  go_enter Try.func36, Try.ntmps36
  go_wp2
  have r3 := (MapKept.heap_alloc w (.cells #[.int .i64 x, .slice a n c] 32)).1
  refine bodyPost_ret (results_cell_row (d := _) rfl _ _ w.heap.size 32 #[.int .i64 x, .slice a n c] (0, 0) rfl r3 Try.underlying32 rfl (by kernel_rfl)) rfl ⟨rfl, (Below.refl _ _).alloc (Nat.le_refl _) _⟩
set_option maxHeartbeats 1000000 in
set_option maxRecDepth 100000 in
theorem made_any {v : Value} {l : List Nd} (h : OMem w0 w os) (hv : NodesAt w0 v l) (hf : ∀ n ∈ l, n.2.length ≤ 100) (hl : l.length ≤ 100) :
    Calls Try.prog 35 #[v] w fun e w' => ∃ b, e = .returned (.pointer (some ⟨b, 0, none⟩)) ∧ OMem w0 w' (os ++ [A.ob b (adds [] l)]) := by
  have HV := Lib.hid hv
  have HF := Lib.hid hf
  have HN := Lib.hid (A.new_ h)
  obtain ⟨a, cap, rfl, -⟩ := hv
  clear hf
  go_enter Try.func35, Try.ntmps35
  go_wp2_with (go_at_call 7; refine (HN.out).mono ?_; rintro e w1 ⟨b, rfl, m1⟩; refine Hid.out ?_)
  refine Lib.hid ?_
  have M1 := Lib.hid m1
  clear m1 HN
  go_wp2
  go_loopw [4] (fun i wr => ∃ k : Nat, k ≤ l.length ∧ i = .int .i64 k ∧ OMem w0 wr (os ++ [A.ob b (adds [] (l.take k))])) (fun i _ => l.length - (intOf i).toNat)
  case atStart => exact ⟨0, Nat.zero_le _, rfl, M1.out⟩
  case round =>
    obtain ⟨k, hk, rfl, M⟩ := hrel
    have HM := Lib.hid M
    by_cases hlt : k < l.length
    · obtain ⟨n, hn⟩ : ∃ n, l[k]? = some n := ⟨_, List.getElem?_eq_getElem hlt⟩
      obtain ⟨lb, off, cap', pa, pc, h1, _, c0, c1, hp⟩ := (HV.out.keep M.below).at_ hn
      cases h1
      have hlen : (adds [] (l.take k)).length ≤ 100 := by
        have := few_nodes (adds_ok ok_nil (l.take k)) (adds_from (l := l.take k) (fun _ h => by cases h) fun n hn => hn)
        rw [List.length_take] at this; omega
      have HA := Lib.hid (A.add_ (n := n) HM.out List.getElem?_concat_length hp (HF.out n (List.mem_of_getElem? hn)) hlen)
      have HT := Lib.hid (adds_take [] hn)
      clear M hn hp
      go_wp2_with (go_at_call 8; refine (HA.out).mono ?_; rintro e w3 ⟨rfl, m3⟩; refine Hid.out ?_)
      refine Lib.hid ?_
      have M3 := Lib.hid m3
      clear m3 HA
      go_wp2
      go_roundw
      case rel =>
        refine ⟨k + 1, by omega, by go_num, ?_⟩
        rw [HT.out]
        have := M3.out
        rwa [List.set_append_right _ _ (Nat.le_refl _), Nat.sub_self] at this
      case measure => simp [intOf]; omega
    · obtain rfl : k = l.length := by omega
      rw [List.take_length] at M
      have HM := Lib.hid M
      clear M
      go_wp2
      go_ret
      exact ⟨b, rfl, HM.out⟩
end
end Go.Proofs.Ytihnnffhpgbgjaa
