/- harden: a pending sector becomes durable. -/
import Derived.Test.YtjbcgahdiolhhaaDoorDClone
import Derived.Deep.RegionHeld3
import Derived.Deep.DrawnRows
import Derived.Lib.MinMax
import Derived.IntWalk
namespace Go.Proofs.YtjbcgahdiolhhaaDoor.D2
open Go.RowKit Go.Maps Go.ChangeMaps Go.MapKept
open Dp
attribute [local go_sem ↓] Go.wp_at_zero Go.wp_at_succ

/-- One memory, whatever has been drawn. -/
structure Hp (w w' : World) : Prop where
  heap : w'.heap = w.heap
  os : w'.os = w.os
  tape : w'.tape = w.tape
  output : w'.output = w.output
theorem Hp.refl (w : World) : Hp w w := ⟨rfl, rfl, rfl, rfl⟩

def HardPost (gg : Nat) (vd : Value) (r : List UInt8) (w : World) (e : Ending) (w' : World) : Prop :=
  e = .returned (.tuple #[]) ∧ ∃ v' w1, w1.ownsRow 0 5 1 v' r.length (byteVs r) ∧ w.grownBy w1 vd.ownBlock ∧ (v'.ownBlock = vd.ownBlock ∨ ∀ k, v'.ownBlock = some k → w.heap.size ≤ k) ∧ Hp (w1.setCell ⟨gg, 1, none⟩ v') w'

theorem sec_cells {w : World} {gn cap : Nat} {ln : List UInt8} (on : w.ownsRow 0 5 1 (.slice (some ⟨gn, 0, none⟩) ln.length cap) ln.length (byteVs ln)) (n : Nat) : ∀ j u, (byteVs (sec ln n))[j]? = some u → w.cell? ((⟨gn, 64 * n, none⟩ : Addr).add j) = some u := by
  intro j u hu
  have h := on.cells (g := gn) rfl (64 * n + j) u
  rw [Lib.add_plain] at h ⊢
  simp only [Nat.zero_add] at h
  apply h
  simp only [byteVs, sec, List.map_take, List.map_drop] at hu
  have hlt : j < 64 := by
    rcases Nat.lt_or_ge j 64 with h | h
    · exact h
    · rw [List.getElem?_take_eq_none h] at hu; cases hu
  rw [List.getElem?_take_of_lt hlt, List.getElem?_drop] at hu
  exact hu

theorem slice_mid {P : Program} (w : World) {t e : TypeId} (ht : P.underlying t = some (.slice e)) {i : TypeInfo} (hi : P.info? e = some i) (hs : i.size = 1) (b off len cap l h : Nat) (h1 : l ≤ h) (h2 : h ≤ cap) (h3 : l < cap) (x y : Int) (hx : x = (l : Int)) (hy : y = (h : Int)) :
    (Instr.slice t (.slice (some ⟨b, off, none⟩) len cap) (some (.int .i64 x)) (some (.int .i64 y)) none).run P w = .ok (.slice (some ⟨b, off + l, none⟩) (h - l) (cap - l)) w := by
  subst hx hy
  have e1 : ¬ (cap = l) := by omega
  simp [Instr.slice, Instr.sliceBounds, Instr.sliceBound, asIntOf, run_underlying ht, sizeOf, typeInfo, hi, hs, h1, h2, e1, Lib.add_plain, Result.andThen, go_sem]

/-- The builtin min of two ints, as a step of a region that draws its order. -/
theorem step_min {P : Program} {ops : Array Oper} {o : Oper} {a : Act} {w : World} {K : Act → World → Prop} {Q : Exit → Act → World → Prop} {E : Prop} (hgd : o.guard = none) (x y : Operand) (ts : Array TypeId)
    (ho : o.op = .call { callee := .builtin .min, args := #[x, y], argTypes := ts }) (p q r : Int) (hx : a.eval x = .int .i64 p) (hy : a.eval y = .int .i64 q) (hr : min p q = r)
    (h : K (a.put o.dst (.int .i64 r)) w) : if Region.wanted o (yielded ops a.tmps) = true then Oper.wp P o a w K Q else E := by
  have hw : Region.wanted o (yielded ops a.tmps) = true := by simp [Region.wanted, hgd]
  rw [if_pos hw]
  unfold Oper.wp
  simp [execOp, ho, resolve, invoke, builtin, hx, hy, hr, Lib.run_min_ints, Result.andThen]
  exact h

theorem stay_put {w w1 : World} {gg : Nat} {row : Option Nat} {i : Nat} {u0 : Value} (c0 : w.cell? ⟨gg, i, none⟩ = some u0) (hg : row ≠ some gg) (g : w.drew.grownBy w1 row) : w1.cell? ⟨gg, i, none⟩ = some u0 :=
  g.cell c0 (fun e => hg e.symm)
theorem stay_fz {w w1 : World} {gg : Nat} {row : Option Nat} {i : Nat} (f1 : w.frozen? ⟨gg, i, none⟩ = false) (hg : row ≠ some gg) (hlt : gg < w.heap.size) (g : w.drew.grownBy w1 row) : w1.frozen? ⟨gg, i, none⟩ = false :=
  (World.frozen?_of_block (w := w.drew) (g.block gg hlt (fun e => hg e.symm))).trans f1
theorem own_form {w : World} {base : Nat} {e : TypeId} {size n : Nat} {v : Value} {xs : List Value} (h : w.ownsRow base e size v n xs) : ∃ a c, v = .slice a n c := by
  rcases h.2 with ⟨rfl, rfl⟩ | ⟨g, cap, cur, rfl, _⟩
  · exact ⟨_, _, rfl⟩
  · exact ⟨_, _, rfl⟩
theorem drew_grown {w w1 : World} {row : Option Nat} (g : w.drew.grownBy w1 row) : w.grownBy w1 row := ⟨g.os, g.tape, g.output, g.size, g.block⟩
theorem put_len (v : Value) (l : List UInt8) (a m : Nat) (t : List UInt8) (gs c : Nat) (w : World) (hm0 : t.length = m) (ht : 0 < m) (hown : w.ownsRow 0 5 1 v l.length (byteVs l)) (hl : l.length ≤ 16777216) (hm : a + m ≤ 16777216) (hne : v.ownBlock ≠ some gs)
    (hsrc : ∀ j u, (byteVs t)[j]? = some u → w.cell? ((⟨gs, a, none⟩ : Addr).add j) = some u) :
    Calls Tryd.prog 52 #[v, .int .i64 (a : Int), .slice (some ⟨gs, a, none⟩) m c] w (PutPost v (putL l a t) w) := by
  subst hm0
  exact put_any v l a t gs a c w ht hown hl hm hne hsrc

set_option maxHeartbeats 4000000 in
set_option maxRecDepth 100000 in
theorem harden_low (gg gn cap : Nat) (vd : Value) (ln ld : List UInt8) (n m : Nat) (w : World)
    (c0 : w.cell? ⟨gg, 0, none⟩ = some (.slice (some ⟨gn, 0, none⟩) ln.length cap)) (c1 : w.cell? ⟨gg, 1, none⟩ = some vd) (f1 : w.frozen? ⟨gg, 1, none⟩ = false)
    (on : w.ownsRow 0 5 1 (.slice (some ⟨gn, 0, none⟩) ln.length cap) ln.length (byteVs ln)) (od : w.ownsRow 0 5 1 vd ld.length (byteVs ld)) (hn : 64 * n < ln.length) (h1 : ln.length ≤ 16777216) (h2 : ld.length ≤ 16777216)
    (hne : vd.ownBlock ≠ some gn) (hg : vd.ownBlock ≠ some gg) (hcap : ln.length ≤ cap) (hm : m = min 64 (ln.length - 64 * n)) :
    Calls Tryd.prog 41 #[.pointer (some ⟨gg, 0, none⟩), .int .i64 (n : Int)] w (HardPost gg vd (putL ld (64 * n) (sec ln n)) w) := by
  have hlen : (sec ln n).length = m := by simp [sec]; omega
  have HS := Lib.hid (sec_cells on n)
  have HD := Lib.hid od
  have HN := Lib.hid hne
  have HG := Lib.hid hg
  have HL := Lib.hid hlen
  have hpos : 0 < m := by omega
  obtain ⟨a, ha⟩ : ∃ a : Nat, (n : Int) * 64 = (a : Int) := ⟨n * 64, by omega⟩
  have haN : 64 * n = a := by omega
  rw [haN] at HS
  have hmin : min ((a : Int) + 64) (ln.length : Int) = (a : Int) + (m : Int) := by omega
  have hmin2 : (if (ln.length : Int) < (a : Int) + 64 then (ln.length : Int) else (a : Int) + 64) = (a : Int) + (m : Int) := by split <;> omega
  have hsum : a + m ≤ 16777216 := by omega
  have HA := Lib.hid haN
  have HR := Lib.hid (show IntKind.i64.wrap ((a : Int) + 64) = (a : Int) + 64 from IntWalk.i64_in _ (by omega))
  have HW := Lib.hid (show min (IntKind.i64.wrap ((a : Int) + 64)) (ln.length : Int) = (a : Int) + (m : Int) by rw [IntWalk.i64_in _ (by omega)]; exact hmin)
  have b1 : (0 : Int) ≤ (a : Int) := by omega
  have b2 : (a : Int) ≤ (a : Int) + (m : Int) := by omega
  have b3 : (a : Int) + (m : Int) ≤ (cap : Int) := by omega
  have b4 : (n : Int) ≤ 262144 := by omega
  have b5 : (a : Int) ≤ 16777216 := by omega
  have t1 : ((a : Int) + (m : Int)).toNat = a + m := by omega
  obtain ⟨i0, hi, _, hz1, _⟩ := info_parts byte_info
  have hsl : ∀ w, (Instr.slice 58 (.slice (some ⟨gn, 0, none⟩) ln.length cap) (some (.int .i64 (a : Int))) (some (.int .i64 ((a : Int) + (m : Int)))) none).run Tryd.prog w = .ok (.slice (some ⟨gn, a, none⟩) m (cap - a)) w := fun w => by
    have := slice_mid w Tryd.underlying58 hi hz1 gn 0 ln.length cap a (a + m) (by omega) (by omega) (by omega) (a : Int) ((a : Int) + (m : Int)) rfl (by omega)
    rw [this]; simp
  have HC := Lib.hid (Lib.lt_of_cell c0)
  clear od on hne hg hlen hm haN hn hi hz1
  go_enter Tryd.func41, Tryd.ntmps41
  go_wp2
  have hwrap := HR.out
  go_region_with (first | (go_at_call 52; refine (put_len vd ld a m (sec ln n) gn (cap - a) w.drew HL.out hpos HD.out h2 hsum HN.out HS.out).mono ?_; rintro e w1 ⟨v', rfl, o1, g1, l1⟩; obtain ⟨va, vc, rfl⟩ := own_form o1; have S2 := stay_put c1 HG.out g1; have S3 := stay_fz f1 HG.out HC.out g1))
  all_goals clear hwrap
  all_goals (go_end0; exact ⟨rfl, _, w1, by rw [HA.out]; exact o1, drew_grown g1, l1, Hp.refl _⟩)
end Go.Proofs.YtjbcgahdiolhhaaDoor.D2
