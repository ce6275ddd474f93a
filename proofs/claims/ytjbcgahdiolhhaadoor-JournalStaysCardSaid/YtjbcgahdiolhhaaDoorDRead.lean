/- Read. -/
import Derived.Test.YtjbcgahdiolhhaaDoorDOps2
namespace Go.Proofs.YtjbcgahdiolhhaaDoor.D2
open Go.RowKit Go.Maps Go.ChangeMaps Go.MapKept
open Dp
attribute [local go_sem ↓] Go.wp_at_zero Go.wp_at_succ

/-- Where a slice of bytes begins that was cut off at the front. -/
def cutA (a : Option Addr) (cap lo : Nat) : Option Addr := if cap = lo then a else a.map fun x => x.add lo
theorem slice_from {P : Program} (w : World) {t e : TypeId} (ht : P.underlying t = some (.slice e)) {i : TypeInfo} (hi : P.info? e = some i) (hs : i.size = 1) (a : Option Addr) (len cap lo : Nat) (h1 : lo ≤ len) :
    (Instr.slice t (.slice a len cap) (some (.int .i64 (lo : Int))) none none).run P w = .ok (.slice (cutA a cap lo) (len - lo) (cap - lo)) w := by
  simp [Instr.slice, Instr.sliceBounds, Instr.sliceBound, asIntOf, run_underlying ht, sizeOf, typeInfo, hi, hs, h1, Result.andThen, go_sem, cutA]
theorem slice_to {P : Program} (w : World) {t e : TypeId} (ht : P.underlying t = some (.slice e)) {i : TypeInfo} (hi : P.info? e = some i) (a : Option Addr) (len cap hg : Nat) (h2 : hg ≤ cap) :
    (Instr.slice t (.slice a len cap) none (some (.int .i64 (hg : Int))) none).run P w = .ok (.slice a hg cap) w := by
  have : ∀ s : Nat, a.map (fun x => x.add (0 * s)) = a := fun s => by cases a with | none => rfl | some x => simp [Addr.add]
  simp [Instr.slice, Instr.sliceBounds, Instr.sliceBound, asIntOf, run_underlying ht, sizeOf, typeInfo, hi, h2, Result.andThen, go_sem]

section
variable {w : World} {lab : Nat → Nat} {id b : Nat} {D : Dk} {mk : List (Nat × Nat)} {L : Loc}

/-- string(b) of a part of what a slice holds. -/
theorem conv_part {w : World} {v : Value} {l : List UInt8} (h : w.ownsRow 0 5 1 v l.length (byteVs l)) {a : Option Addr} {cap : Nat} (hv : v = .slice a l.length cap) (lo hg c : Nat) (h1 : lo + hg ≤ l.length) :
    (convert 58 9 (.slice (cutA a cap lo) hg c)).run Tryd.prog w = .ok (.string (bs ((l.drop lo).take hg))) w := by
  subst hv
  rcases Nat.eq_zero_or_pos hg with h0 | h0
  · subst h0
    rw [List.take_zero]
    cases hc : cutA a cap lo with
    | none => exact Lib.run_convert_nil_bytes w 58 9 5 c Tryd.underlying58 Tryd.underlying5 Tryd.underlying9
    | some x => exact run_convert_bytes_back w 58 9 5 x c [] Tryd.underlying58 Tryd.underlying5 Tryd.underlying9 (fun j hj => by simp at hj)
  · rcases h.2 with ⟨_, h2⟩ | ⟨g, cap', cur, hv, _, hgg, hnc, _⟩
    · omega
    · cases hv
      have hca : cutA (some ⟨g, 0, none⟩) cap lo = some ⟨g, lo, none⟩ := by
        unfold cutA
        split
        · omega
        · simp [Lib.add_plain]
      rw [hca]
      have hl : ((l.drop lo).take hg).length = hg := by simp; omega
      have := run_convert_bytes_back w 58 9 5 ⟨g, lo, none⟩ c ((l.drop lo).take hg) Tryd.underlying58 Tryd.underlying5 Tryd.underlying9 (fun j hj => by
        have hj2 : j < hg := by omega
        have hc := h.cells (g := g) rfl (lo + j) (.int .u8 (l[lo + j].toNat : Int)) (by simp [byteVs, show lo + j < l.length by omega])
        rw [Lib.add_plain, Nat.zero_add] at hc
        rw [Lib.add_plain, hc]
        simp)
      rw [hl] at this
      exact this

def ReadPost (r : List UInt8 × Int) (w : World) (e : Ending) (w' : World) : Prop := e = .returned (.tuple #[.string (bs r.1), .int .i64 r.2]) ∧ Hp w w'

set_option maxHeartbeats 2000000 in
set_option maxRecDepth 100000 in
theorem read_any (h : DiskIn w lab id b D mk L) (f a n : Int) (hf : I64 f) (ha : I64 a) (hn : I64 n) :
    Calls Tryd.prog 30 #[.pointer (some ⟨b, 0, none⟩), .int .i64 f, .int .i64 a, .int .i64 n] w (ReadPost (D.read f a n) w) := by
  have c3 := h.c 3
  have c0 := h.c 0
  simp only [List.getElem?_toArray, List.getElem?_cons_zero, List.getElem?_cons_succ] at c3 c0
  have hl := h.lookF hf
  have a1 := ha.1
  have a2 := ha.2
  have n1 := hn.1
  have n2 := hn.2
  have hb0 : bs [] = ⟨#[]⟩ := rfl
  cases hd : D.down with
  | true =>
    rw [hd] at c3
    have HR := Lib.hid (show D.read f a n = ([], eDown) by simp [Dk.read, hd])
    clear h hf ha hn hl hd hb0
    go_enter Tryd.func30, Tryd.ntmps30
    go_wp2
    go_ret2
    rw [HR.out]
    exact ⟨rfl, Hp.refl _⟩
  | false =>
    rw [hd] at c3
    cases hi : isFile f with
    | false =>
      rw [if_neg (isFile_false hi)] at hl
      have HR := Lib.hid (show D.read f a n = ([], eArg) by simp [Dk.read, hd, hi])
      clear h hf ha hn hd hb0 hi
      go_enter Tryd.func30, Tryd.ntmps30
      go_wp2
      go_ret2
      rw [HR.out]
      exact ⟨rfl, Hp.refl _⟩
    | true =>
      rw [if_pos (isFile_true hi)] at hl
      by_cases hneg : a < 0 ∨ n < 0
      · have HR := Lib.hid (show D.read f a n = ([], eArg) by simp only [Dk.read, hd, hi]; rw [if_neg (by simp), if_pos (by rcases hneg with h1 | h1; exact .inr (.inl h1); exact .inr (.inr h1))])
        by_cases h1 : a < 0
        · clear h hf ha hn hd hb0 hi hneg
          go_enter Tryd.func30, Tryd.ntmps30
          go_wp2
          go_ret2
          rw [HR.out]
          exact ⟨rfl, Hp.refl _⟩
        · have h2 : n < 0 := by omega
          clear h hf ha hn hd hb0 hi hneg
          go_enter Tryd.func30, Tryd.ntmps30
          go_wp2
          go_ret2
          rw [HR.out]
          exact ⟨rfl, Hp.refl _⟩
      · have hf16 := isFile_true hi
        have ho := h.now f.toNat (by omega)
        have hlen := h.ok.now f.toNat
        have c1 := h.fc (f := f.toNat) (by omega) 0
        simp only [List.getElem?_toArray, List.getElem?_cons_zero] at c1
        obtain ⟨na, nc, hnv⟩ := own_form ho
        rw [hnv] at c1
        have hcap : (D.now f.toNat).length ≤ nc := by
          rcases ho.2 with ⟨h1, h2⟩ | ⟨g, cap, cur, h1, _, _, h4, _⟩
          · omega
          · rw [hnv] at h1; cases h1; exact h4
        obtain ⟨lo, hlo⟩ : ∃ lo : Nat, lo = min a.toNat (D.now f.toNat).length := ⟨_, rfl⟩
        obtain ⟨hg, hhg⟩ : ∃ hg : Nat, hg = min n.toNat ((D.now f.toNat).length - lo) := ⟨_, rfl⟩
        have HR := Lib.hid (show D.read f a n = (((D.now f.toNat).drop lo).take hg, eOK) by
          simp only [Dk.read, hd, hi]
          rw [if_neg (by simp), if_neg (by simp; omega)]
          congr 1
          apply List.ext_getElem?
          intro i
          simp only [List.getElem?_take, List.getElem?_drop]
          by_cases hin : i < hg
          · rw [if_pos (by omega), if_pos hin]; congr 1; omega
          · rw [if_neg hin]
            split
            · exact List.getElem?_eq_none (by omega)
            · rfl)
        obtain ⟨i0, hif, _, hz1, _⟩ := info_parts byte_info
        have hs1 : ∀ w, (Instr.slice 58 (.slice na (D.now f.toNat).length nc) (some (.int .i64 (lo : Int))) none none).run Tryd.prog w = .ok (.slice (cutA na nc lo) ((D.now f.toNat).length - lo) (nc - lo)) w := fun w => slice_from w Tryd.underlying58 hif hz1 na _ nc lo (by omega)
        have hs2 : ∀ w, (Instr.slice 58 (.slice (cutA na nc lo) ((D.now f.toNat).length - lo) (nc - lo)) none (some (.int .i64 (hg : Int))) none).run Tryd.prog w = .ok (.slice (cutA na nc lo) hg (nc - lo)) w := fun w => slice_to w Tryd.underlying58 hif _ _ _ hg (by omega)
        have hcv : ∀ w', w'.heap = w.heap → (convert 58 9 (.slice (cutA na nc lo) hg (nc - lo))).run Tryd.prog w' = .ok (.string (bs (((D.now f.toNat).drop lo).take hg))) w' := fun w' hw' => conv_part (ownsRow_block ho fun k _ => by rw [hw']) hnv lo hg _ (by omega)
        have hcv2 := hcv w.drew rfl
        have hm1 : min a ((D.now f.toNat).length : Int) = (lo : Int) := by omega
        have hm2 : min n (((D.now f.toNat).length - lo : Nat) : Int) = (hg : Int) := by omega
        have p1 : ¬ a < 0 := by omega
        have p2 : ¬ n < 0 := by omega
        have q1 : (0 : Int) ≤ a := by omega
        have q2 : (0 : Int) ≤ n := by omega
        clear h hf ha hn hd hb0 hi hneg ho hnv hcv hlo hhg hif hz1
        generalize (D.now f.toNat).length = len at *
        obtain ⟨r, hr⟩ : ∃ r, len - lo = r := ⟨_, rfl⟩
        rw [hr] at hm2
        rw [hr] at hs1 hs2
        have hrl : (r : Int) ≤ 16777216 := by omega
        clear hr hf16
        go_enter Tryd.func30, Tryd.ntmps30
        go_wp2
        go_region_with (fail)
        all_goals
          go_wp2
          go_ret2
          rw [HR.out]
          exact ⟨rfl, ⟨rfl, rfl, rfl, rfl⟩⟩
end
end Go.Proofs.YtjbcgahdiolhhaaDoor.D2
