/- The statements' acts: how they lie in memory, few and do. -/
import Derived.Test.YtjbcgahdiolhhaaDoorDCopy
import Derived.Test.YtjbcgahdiolhhaaDoorDTrunc
import Derived.Laws.BitsLemmas
namespace Go.Proofs.YtjbcgahdiolhhaaDoor.D2
open Go.RowKit Go.Maps Go.ChangeMaps Go.MapKept
open Dp
attribute [local go_sem ↓] Go.wp_at_zero Go.wp_at_succ

theorem i64_and7 (n : Int) : bits .and .i64 n 7 = n % 8 := by
  have h7 : (BitVec.ofInt 64 7).toNat = 2 ^ 3 - 1 := by decide
  have key : (BitVec.ofInt 64 n &&& BitVec.ofInt 64 7).toNat = (n % ((2 ^ 64 : Nat) : Int)).toNat % 2 ^ 3 := by
    rw [BitVec.toNat_and, BitVec.toNat_ofInt, h7, Nat.and_two_pow_sub_one_eq_mod]
  show IntKind.i64.wrap ((BitVec.ofInt 64 n &&& BitVec.ofInt 64 7).toNat : Nat) = n % 8
  rw [key, IntKind.wrap_i64]
  omega
theorem i64_and3 (n : Int) : bits .and .i64 n 3 = n % 4 := by
  have h7 : (BitVec.ofInt 64 3).toNat = 2 ^ 2 - 1 := by decide
  have key : (BitVec.ofInt 64 n &&& BitVec.ofInt 64 3).toNat = (n % ((2 ^ 64 : Nat) : Int)).toNat % 2 ^ 2 := by
    rw [BitVec.toNat_and, BitVec.toNat_ofInt, h7, Nat.and_two_pow_sub_one_eq_mod]
  show IntKind.i64.wrap ((BitVec.ofInt 64 n &&& BitVec.ofInt 64 3).toNat : Nat) = n % 4
  rw [key, IntKind.wrap_i64]
  omega

/-- An act. -/
structure Act1 where
  K : Int
  F : Int
  N : Int
  S : List UInt8
  Keep : List Int
structure Act1.Ok (x : Act1) : Prop where
  K : I64 x.K
  F : I64 x.F
  N : I64 x.N
  Keep : ∀ z ∈ x.Keep, I64 z
structure ACells (w : World) (b o : Nat) (x : Act1) (vk : Value) : Prop where
  c0 : w.cell? ⟨b, o, none⟩ = some (.int .i64 x.K)
  c1 : w.cell? ⟨b, o + 1, none⟩ = some (.int .i64 x.F)
  c2 : w.cell? ⟨b, o + 2, none⟩ = some (.int .i64 x.N)
  c3 : w.cell? ⟨b, o + 3, none⟩ = some (.string (bs x.S))
  c4 : w.cell? ⟨b, o + 4, none⟩ = some vk
def ActsIn (w : World) (a : Option Addr) (xs : List Act1) : Prop :=
  xs = [] ∨ ∃ b off, a = some ⟨b, off, none⟩ ∧ ∀ i x, xs[i]? = some x → ∃ vk, ACells w b (off + i * 5) x vk ∧ SrcIs w 1 vk x.Keep.length (intVs x.Keep)

def Few1 (x : Act1) : Prop := x.S.length ≤ 300 ∧ x.Keep.length ≤ 60 ∧ ¬ (3000 < x.N ∧ x.N < 16776916)
open Classical in
noncomputable def fewB (xs : List Act1) : Bool := decide (xs.length ≤ 40 ∧ ∀ x ∈ xs, Few1 x)
theorem fewB_true {xs : List Act1} (h : fewB xs = true) : xs.length ≤ 40 ∧ ∀ x ∈ xs, Few1 x := by simpa [fewB] using h
theorem fewB_not {xs : List Act1} (h : ¬ (xs.length ≤ 40 ∧ ∀ x ∈ xs, Few1 x)) : fewB xs = false := by
  unfold fewB; rw [decide_eq_false_iff_not]; exact h
theorem fewB_eq {xs : List Act1} (h : ∀ x ∈ xs, Few1 x) : fewB xs = decide ((xs.length : Int) ≤ 40) := by
  unfold fewB
  rw [decide_eq_decide]
  exact ⟨fun q => by have := q.1; omega, fun q => ⟨by omega, h⟩⟩
theorem ret_bool {a b : Bool} (h : a = b) : Ending.returned (.bool a) = .returned (.bool b) := by rw [h]

theorem src_keep {w w' : World} {size n : Nat} {v : Value} {xs : List Value} (h : SrcIs w size v n xs) (hb : Below w.heap.size w w') : SrcIs w' size v n xs := by
  refine ⟨h.1, ?_⟩
  rcases h.2 with h2 | ⟨ad, cap, hv, h4, h5⟩
  · exact .inl h2
  · exact .inr ⟨ad, cap, hv, fun j u hj => below_cell (h4 j u hj) hb, h5⟩
theorem ActsIn.keep {w w' : World} {a : Option Addr} {xs : List Act1} (h : ActsIn w a xs) (hb : Below w.heap.size w w') : ActsIn w' a xs := by
  rcases h with h | ⟨b, off, h1, h2⟩
  · exact .inl h
  · refine .inr ⟨b, off, h1, fun i x hx => ?_⟩
    obtain ⟨vk, h3, h4⟩ := h2 i x hx
    exact ⟨vk, ⟨below_cell h3.c0 hb, below_cell h3.c1 hb, below_cell h3.c2 hb, below_cell h3.c3 hb, below_cell h3.c4 hb⟩, src_keep h4 hb⟩
theorem ActsIn.get {w : World} {a : Option Addr} {xs : List Act1} (h : ActsIn w a xs) {i : Nat} {x : Act1} (hx : xs[i]? = some x) : ∃ b off vk, a = some ⟨b, off, none⟩ ∧ ACells w b (off + i * 5) x vk ∧ SrcIs w 1 vk x.Keep.length (intVs x.Keep) := by
  rcases h with h | ⟨b, off, h1, h2⟩
  · subst h; simp at hx
  · obtain ⟨vk, h3, h4⟩ := h2 i x hx
    exact ⟨b, off, vk, h1, h3, h4⟩
theorem src_form {w : World} {size n : Nat} {v : Value} {xs : List Value} (h : SrcIs w size v n xs) : ∃ a c, v = .slice a n c := by
  rcases h.2 with ⟨rfl, rfl⟩ | ⟨ad, cap, rfl, _⟩
  · exact ⟨_, _, rfl⟩
  · exact ⟨_, _, rfl⟩

/-- An act, performed. -/
def Dk.act (D : Dk) (x : Act1) : Int × Dk :=
  if x.K % 8 = 2 then D.sync x.F else if x.K % 8 = 3 then D.truncate x.F x.N else if x.K % 8 = 4 then (0, D.lose (x.N % 4))
  else if x.K % 8 = 5 then (0, D.arm x.N x.Keep) else if x.K % 8 = 6 then (0, D.crash x.Keep) else if x.K % 8 = 7 then (0, D.start) else D.write x.F x.N x.S
theorem good_act {D : Dk} (h : Good D) (x : Act1) : Good (Dk.act D x).2 := by
  unfold Dk.act
  split
  · exact good_sync h _
  · split
    · exact good_truncate h _ _
    · split
      · exact h.of rfl rfl rfl
      · split
        · exact h.of rfl rfl rfl
        · split
          · exact good_crash h _
          · split
            · exact h.of rfl rfl rfl
            · exact good_write h _ _ _

section
variable {w : World} {lab : Nat → Nat} {id b : Nat} {D : Dk} {L : Loc}
/-- The call's own list of numbers is no part of the disk. -/
def Outside (lab : Nat → Nat) (id : Nat) (v : Value) : Prop := ∀ ad n c, v = .slice (some ad) n c → 0 < n → (lab ad.block < id ∨ id + 64 ≤ lab ad.block)
end
end Go.Proofs.YtjbcgahdiolhhaaDoor.D2
