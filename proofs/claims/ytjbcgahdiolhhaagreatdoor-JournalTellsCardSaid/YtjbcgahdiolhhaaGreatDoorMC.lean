/- Several texts in one: DWriteD, DOps, DDGood, DNew, DCopyI, DCopyE, DCopy, DOps2, DRead, DTrunc, DActs, DDo, DSmallD, DMem, DPlain. -/
import Derived.Test.YtjbcgahdiolhhaaGreatDoorMB
import Derived.Lib.Strings
import Derived.Deep.RegionHeld3
import Derived.Laws.BitsLemmas
namespace Go.Proofs.YtjbcgahdiolhhaaGreatDoor.D2
open Go.RowKit Go.Maps Go.ChangeMaps Go.MapKept
open Dp
attribute [local go_sem ↓] Go.wp_at_zero Go.wp_at_succ

theorem MapIs.store' {P : Program} {w : World} {k : TypeId} {b c : Nat} {m : Lit → Option Value} {t e : TypeId} (h : MapIs P w k b c m) (K : Keyed P k) (ht : P.underlying t = some (.map k e)) (hn : c < maxLen) {key val : Value} {kl : Lit} (hkey : keyOf P k key = some kl) (hnew : m kl = none) :
    ∃ w', (Instr.mapUpdate t (.map (some b)) key val).run P w = .ok () w' ∧ MapIs P w' k b (c + 1) (fun x => open Classical in if x = kl then some val else m x) ∧ w.grownBy w' (some b) := h.store K ht hn hkey hnew

theorem markMap_snoc {ps : List (Nat × Nat)} {p : Nat × Nat} (kl : Lit) : markMap (ps ++ [p]) kl = (open Classical in if kl = secLit p then some (.bool true) else markMap ps kl) := by
  unfold markMap
  by_cases h : kl = secLit p
  · subst h
    rw [if_pos rfl, if_pos ⟨p, by simp, rfl⟩]
  · rw [if_neg h]
    congr 1
    refine propext ⟨fun ⟨q, hq, e⟩ => ⟨q, ?_, e⟩, fun ⟨q, hq, e⟩ => ⟨q, by simp [hq], e⟩⟩
    rcases List.mem_append.1 hq with hq | hq
    · exact hq
    · simp at hq; subst hq; exact absurd e.symm h
theorem markMap_in {ps : List (Nat × Nat)} {p : Nat × Nat} (hb : ∀ q ∈ ps, q.1 < 16 ∧ q.2 < 262144) (h1 : p.1 < 16) (h2 : p.2 < 262144) : markMap ps (secLit p) = if p ∈ ps then some (.bool true) else none := by
  unfold markMap
  by_cases h : p ∈ ps
  · rw [if_pos h, if_pos ⟨p, h, rfl⟩]
  · rw [if_neg h, if_neg]
    rintro ⟨q, hq, e⟩
    have := hb q hq
    exact h (by rw [← secLit_inj (by omega) (by omega) (by omega) (by omega) e]; exact hq)

theorem alloc_new_cell (w : World) (cs : Array Value) (e : TypeId) (i : Nat) : (w.alloc (.cells cs e)).cell? ⟨w.heap.size, i, none⟩ = cs[i]? := by
  rw [Lib.cell_of_heap (show (w.alloc (.cells cs e)).heap[w.heap.size]? = some (.cells cs e) from (MapKept.heap_alloc w _).1)]
theorem secs_snoc (f n : Nat) : ∀ k, secs f n (k + 1) = secs f n k ++ [(f, n + k)] := by
  intro k
  induction k generalizing n with
  | zero => simp [secs]
  | succ k ih => rw [secs, ih (n + 1)]; simp [secs, Nat.add_assoc, Nat.add_comm 1]
theorem addSecs_snoc (ps : List (Nat × Nat)) (f n k : Nat) : addSecs ps f n (k + 1) = addSec (addSecs ps f n k) (f, n + k) := by
  unfold addSecs; rw [secs_snoc, List.foldl_append]; rfl
theorem addSec_mem {ps : List (Nat × Nat)} {p q : Nat × Nat} : q ∈ addSec ps p ↔ q ∈ ps ∨ q = p := by
  unfold addSec; split
  · rename_i h; exact ⟨.inl, fun h' => h'.elim id (fun e => e ▸ h)⟩
  · simp
theorem addSec_nodup {ps : List (Nat × Nat)} {p : Nat × Nat} (h : ps.Nodup) : (addSec ps p).Nodup := by
  unfold addSec; split
  · exact h
  · rename_i hp
    exact List.nodup_append.2 ⟨h, by simp, fun a ha c hc => by simp at hc; subst hc; exact fun e => hp (e ▸ ha)⟩
theorem addSecs_ok {ps : List (Nat × Nat)} {f n : Nat} (h : ps.Nodup) (hf : f < 16) (hb : ∀ q ∈ ps, q.1 < 16 ∧ q.2 < 262144) : ∀ k, n + k ≤ 262144 → (addSecs ps f n k).Nodup ∧ ∀ q ∈ addSecs ps f n k, q.1 < 16 ∧ q.2 < 262144 := by
  intro k
  induction k with
  | zero => intro _; exact ⟨h, hb⟩
  | succ k ih =>
    intro hk
    obtain ⟨h1, h2⟩ := ih (by omega)
    rw [addSecs_snoc]
    refine ⟨addSec_nodup h1, fun q hq => ?_⟩
    rcases addSec_mem.1 hq with hq | rfl
    · exact h2 q hq
    · exact ⟨hf, by show n + k < 262144; omega⟩

/-- The part of a write behind the putting. -/
def WriteInv (lab : Nat → Nat) (id b : Nat) (D : Dk) (f n0 : Nat) (w : World) (k : Nat) (wr : World) : Prop :=
  ∃ lab' L', DiskIn wr lab' id b { D with pend := addSecs D.pend f n0 k } (addSecs D.pend f n0 k) L' ∧ Chg id lab lab' w wr

section
variable {w : World} {lab : Nat → Nat} {id b : Nat} {D : Dk} {L : Loc}
theorem write_arg (h : DiskIn w lab id b D D.pend L) (f a : Int) (s : List UInt8) (hf : I64 f) (ha : I64 a) (hb : isFile f = false ∨ a < 0) :
    Calls Tryz.prog 50 #[.pointer (some ⟨b, 0, none⟩), .int .i64 f, .int .i64 a, .string (bs s)] w fun e w' => e = .returned (.int .i64 1) ∧ w = w' := by
  have c0 := h.c 0
  simp only [List.getElem?_toArray, List.getElem?_cons_zero] at c0
  have hl := h.lookF hf
  have a1 := ha.1
  have a2 := ha.2
  cases hi : isFile f with
  | false =>
    rw [if_neg (isFile_false hi)] at hl
    clear h hi hb
    go_enter Tryz.func50, Tryz.ntmps50
    go_wp2
    go_ret
    exact ⟨rfl, rfl⟩
  | true =>
    rw [if_pos (isFile_true hi)] at hl
    have h0 : a < 0 := by rcases hb with h1 | h1 <;> simp_all
    clear h hi hb
    go_enter Tryz.func50, Tryz.ntmps50
    go_wp2
    go_ret
    exact ⟨rfl, rfl⟩

set_option maxRecDepth 100000 in
theorem write_none (h : DiskIn w lab id b D D.pend L) (f a : Int) (s : List UInt8) (hf : I64 f) (ha : I64 a) (hb : isFile f = true) (h0 : 0 ≤ a) (hs : s.length ≤ 140737488355327) (hc : 16777216 - (s.length : Int) < a ∨ s = []) :
    Calls Tryz.prog 50 #[.pointer (some ⟨b, 0, none⟩), .int .i64 f, .int .i64 a, .string (bs s)] w fun e w' => e = .returned (.int .i64 (if 16777216 - (s.length : Int) < a then 6 else 0)) ∧ w = w' := by
  have c0 := h.c 0
  simp only [List.getElem?_toArray, List.getElem?_cons_zero] at c0
  have hl := h.lookF hf
  have a2 := ha.2
  rw [if_pos (isFile_true hb)] at hl
  have hz := bs_size s
  have hz1 : ((bs s).size : Int) = (s.length : Int) := by rw [hz]
  have hz2 : (bs s).size ≤ 140737488355327 := by omega
  by_cases hcase : 16777216 - (s.length : Int) < a
  · rw [if_pos hcase]
    have hcase2 : 16777216 - ((bs s).size : Int) < a := by omega
    clear h hb hz hcase hc hz1
    go_enter Tryz.func50, Tryz.ntmps50
    go_wp2
    go_ret
    exact ⟨rfl, rfl⟩
  · rw [if_neg hcase]
    obtain rfl : s = [] := by rcases hc with h1 | h1; exact absurd h1 hcase; exact h1
    have hcase2 : ¬ (16777216 : Int) < a := by simpa using hcase
    have hb0 : bs [] = ⟨#[]⟩ := rfl
    rw [hb0]
    clear h hb hz hcase hc hz1 hz2 hb0
    go_enter Tryz.func50, Tryz.ntmps50
    go_wp2
    go_ret
    exact ⟨rfl, rfl⟩

/-- The bytes of a string, in a new block. -/
theorem conv_bytes (w : World) (s : List UInt8) : ∃ wc cap, (convert 9 62 (.string (bs s))).run Tryz.prog w = .ok (.slice (some ⟨w.heap.size, 0, none⟩) s.length cap) wc ∧ Below w.heap.size w wc ∧ ∀ j u, (byteVs s)[j]? = some u → wc.cell? ((⟨w.heap.size, 0, none⟩ : Addr).add j) = some u := by
  have hr := run_bytes_of_string w 9 62 5 (bs s) Tryz.underlying9 Tryz.underlying62 Tryz.underlying5
  rw [bs_size] at hr
  refine ⟨_, _, hr, ((Below.refl _ _).drew).alloc (Nat.le_refl _) _, ?_⟩
  intro j u hj
  rw [Lib.add_plain, Nat.zero_add]
  have hh : ∀ (C : Array Value) (z : Nat × Nat), ((w.drew.alloc (.cells C 5 z)).heap[w.heap.size]?) = some (.cells C 5 z) := fun C z => by
    show (w.heap.push (.cells C 5 z))[w.heap.size]? = _
    simp
  rw [Lib.cell_of_heap (hh _ _)]
  obtain ⟨hjl, rfl⟩ := List.getElem?_eq_some_iff.1 hj
  have e1 : (bytesRow (bs s) (grownCap w s.length 0 5)).toList = byteVs s ++ List.replicate (grownCap w s.length 0 5 - (bs s).size) (.int .u8 0) := by simp [bytesRow, bs, byteVs]
  rw [← Array.getElem?_toList, e1, List.getElem?_append_left hjl, List.getElem?_eq_getElem hjl]

def K0 (a n : Nat) : Nat := (a + n - 1) / 64 + 1 - a / 64

set_option maxHeartbeats 4000000 in
set_option maxRecDepth 100000 in
theorem write_put (h : DiskIn w lab id b D D.pend L) (f a : Nat) (s : List UInt8) (hf : f < 16) (ha : a + s.length ≤ 16777216) (hs : 0 < s.length) :
    Calls Tryz.prog 50 #[.pointer (some ⟨b, 0, none⟩), .int .i64 (f : Int), .int .i64 (a : Int), .string (bs s)] w (ResPost lab id b (.int .i64 0) (D.put f a s) w) := by
  have c0 := h.c 0
  simp only [List.getElem?_toArray, List.getElem?_cons_zero] at c0
  have hl := h.lookN hf
  have hcase2 : ¬ 16777216 - ((bs s).size : Int) < (a : Int) := by rw [bs_size]; omega
  have hz2 : (bs s).size ≤ 16777216 := by rw [bs_size]; omega
  have hne : (bs s).toList.isEmpty = false := by
    have e : (bs s).toList = s := Lib.toList_data _
    rw [e]; cases s with
    | nil => simp at hs
    | cons x s => rfl
  obtain ⟨wc, cap, hconv, hbc, hsrc⟩ := conv_bytes w s
  have c1 := h.fc hf 0
  simp only [List.getElem?_toArray, List.getElem?_cons_zero] at c1
  have H := Lib.hid h
  have HB := Lib.hid hbc
  have HSRC := Lib.hid hsrc
  clear h hbc hsrc
  go_enter Tryz.func50, Tryz.ntmps50
  have hfn := H.out.now f hf
  have hfw := H.out.ok.now f
  have hnb : (L.nv f).ownBlock ≠ some w.heap.size := fun e => by have := (hfn.lt _ e).2; omega
  have hfc : wc.ownsRow 0 5 1 (L.nv f) (D.now f).length (byteVs (D.now f)) := ownsRow_block hfn fun j hj => HB.out.block j (hfn.lt j hj).2
  have h1c := (H.out.fresh HB.out).fc hf 0
  simp only [List.getElem?_toArray, List.getElem?_cons_zero] at h1c
  obtain ⟨na, nc, hnv⟩ := own_form hfn
  rw [hnv] at c1 h1c hfc hnb
  have HF := Lib.hid hfc
  have HNB := Lib.hid hnb
  clear hfn hfc hnb
  have HNV := Lib.hid hnv
  clear hnv
  go_wp2_with (go_at_call 70; ((with_reducible refine (put_any (.slice na (D.now f).length nc) (D.now f) a s w.heap.size 0 cap wc hs HF.out hfw ha HNB.out HSRC.out).mono ?_); rintro e w2 ⟨v', rfl, o2, g2, l2⟩; refine Hid.out ?_))
  refine Lib.hid ?_
  obtain ⟨va, vc, rfl⟩ := own_form o2
  have g2w : w.grownBy w2 (L.nv f).ownBlock := by
    rw [HNV.out]
    exact ⟨g2.os.trans HB.out.os, g2.tape.trans HB.out.tape, g2.output.trans HB.out.output, Nat.le_trans HB.out.size g2.size, fun j hj hne2 => (g2.block j (Nat.lt_of_lt_of_le hj HB.out.size) hne2).trans (HB.out.block j hj)⟩
  have hset := H.out.setNow hf (r := putL (D.now f) a s) (by rw [putL_length]; omega) g2w o2 (by
    rw [HNV.out]
    rcases l2 with h1 | h1
    · exact .inl h1
    · exact .inr fun j hj => Nat.le_trans HB.out.size (h1 j hj)) (Hp.refl _)
  have hgn : (L.nv f).ownBlock ≠ some (L.g f) := fun e => by have h5 := H.out.ln f hf _ e; have h6 := H.out.lg f hf; omega
  have hgl := lt_heap (H.out.file f hf)
  have d0 := g2w.cell (a := ⟨L.g f, 0, none⟩) c1 (fun e => hgn e.symm)
  have f0 : w2.frozen? ⟨L.g f, 0, none⟩ = false := (World.frozen?_of_block (w := w) (g2w.block _ hgl (fun e => hgn e.symm))).trans (H.out.ffz hf 0)
  generalize hD' : ({ D with now := upd D.now f (putL (D.now f) a s) } : Dk) = D' at hset
  have HD' := Lib.hid (show D.put f a s = { D' with pend := addSecs D'.pend f (a / 64) (K0 a s.length) } by rw [← hD']; rfl)
  have hpn : D'.pend = D.pend := by rw [← hD']
  have hlb : (a + s.length - 1) / 64 < 262144 := by omega
  obtain ⟨n0, hn0⟩ : ∃ n, n = a / 64 := ⟨_, rfl⟩
  obtain ⟨n1, hn1⟩ : ∃ n, n = (a + s.length - 1) / 64 := ⟨_, rfl⟩
  have hK : n0 + K0 a s.length = n1 + 1 := by unfold K0; omega
  have hq0 : (a : Int).tdiv 64 = (n0 : Int) := by rw [hn0]; exact (Int.ofNat_tdiv a 64).symm
  have hq1 : ((a : Int) + ((bs s).size : Int) - 1).tdiv 64 = (n1 : Int) := by
    rw [hn1, bs_size, show (a : Int) + (s.length : Int) - 1 = ((a + s.length - 1 : Nat) : Int) by omega]; exact (Int.ofNat_tdiv _ 64).symm
  rw [← hn1] at hlb
  rw [← hn0] at HD'
  obtain ⟨hset1, kset⟩ := hset
  rw [← hpn] at hset1
  have HST := Lib.hid (show WriteInv lab id b D' f n0 w 0 _ from ⟨_, _, hset1, kset⟩)
  have HPO := Lib.hid (show D'.pend.Nodup ∧ ∀ q ∈ D'.pend, q.1 < 16 ∧ q.2 < 262144 by rw [hpn]; exact ⟨H.out.ok.pend, H.out.ok.few⟩)
  have g4 : (n0 : Int) ≤ 262144 := by omega
  have g5 : (n1 : Int) ≤ 262144 := by omega
  clear hset1 kset g2w g2 l2 o2 HF HNB HSRC h1c hgn hgl hn0 hn1 hconv hl hD' hpn c0
  generalize K0 a s.length = K at hK HD'
  go_wp2
  generalize w2.setCell ⟨L.g f, 0, none⟩ (.slice va (putL (D.now f) a s).length vc) = w3 at HST ⊢
  clear d0 f0
  go_loopw [10] (fun n wr => ∃ j : Nat, n0 ≤ j ∧ j ≤ n1 + 1 ∧ n = .int .i64 (j : Int) ∧ WriteInv lab id b D' f n0 w (j - n0) wr) (fun n _ => n1 + 1 - (intOf n).toNat)
  case atStart => exact ⟨n0, Nat.le_refl _, by omega, rfl, by rw [Nat.sub_self]; exact HST.out⟩
  case round =>
    obtain ⟨j, hj0, hjl, rfl, hinv⟩ := hrel
    have HINV := Lib.hid hinv
    clear hinv
    by_cases hlt : j ≤ n1
    · obtain ⟨lab1, L1, h1, k1⟩ := HINV.out
      have hsn : addSecs D'.pend f n0 (j + 1 - n0) = addSec (addSecs D'.pend f n0 (j - n0)) (f, j) := by
        rw [show j + 1 - n0 = (j - n0) + 1 by omega, addSecs_snoc, show n0 + (j - n0) = j by omega]
      have HSN := Lib.hid hsn
      have hbA := below_alloc wr (.cells #[.int .i64 (f : Int), .int .i64 (j : Int)] 81)
      have h2 := h1.fresh hbA
      have k2 := chg_below k1 h1 hbA
      have a0 : (wr.alloc (.cells #[.int .i64 (f : Int), .int .i64 (j : Int)] 81)).cell? ⟨wr.heap.size, 0, none⟩ = some (.int .i64 (f : Int)) := by simp
      have a1 : (wr.alloc (.cells #[.int .i64 (f : Int), .int .i64 (j : Int)] 81)).cell? ⟨wr.heap.size, 1, none⟩ = some (.int .i64 (j : Int)) := by simp
      have hrl : wr.heap.size < (wr.alloc (.cells #[.int .i64 (f : Int), .int .i64 (j : Int)] 81)).heap.size := by simp
      have hlr := h1.lo wr.heap.size (Nat.le_refl _)
      have hle : (j : Int) ≤ (n1 : Int) := by omega
      clear hsn hbA h1 k1
      generalize hps : addSecs D'.pend f n0 (j - n0) = ps at h2 HSN
      clear hps
      have hlen : ps.length ≤ 4194304 := pend_len h2.ok
      have hfew := h2.ok.few
      simp only at hfew hlen
      have hkey : keyOf Tryz.prog 81 (secV (f, j)) = some (secLit (f, j)) := keyS (p := (f, j)) (by show f < _; omega) (by show j < _; omega)
      have hmi := markMap_in (p := (f, j)) hfew hf (by show j < _; omega)
      have hlook := h2.drew.marks.look lawS Tryz.underlying57 (zeroB _) hkey
      rw [hmi] at hlook
      have c2 := h2.c 2
      simp only [List.getElem?_toArray, List.getElem?_cons_zero, List.getElem?_cons_succ] at c2
      by_cases hin : (f, j) ∈ ps
      · rw [if_pos hin] at hlook
        have hlook : (Instr.lookup 57 (.map (some L1.mm)) (.agg #[.int .i64 (f : Int), .int .i64 (j : Int)]) false).run Tryz.prog (wr.alloc (.cells #[.int .i64 (f : Int), .int .i64 (j : Int)] 81)).drew = .ok (.bool true) (wr.alloc (.cells #[.int .i64 (f : Int), .int .i64 (j : Int)] 81)).drew := hlook
        have HIN5 := Lib.hid (show WriteInv lab id b D' f n0 w (j + 1 - n0) (wr.alloc (.cells #[.int .i64 (f : Int), .int .i64 (j : Int)] 81)).drew from
          ⟨lab1, L1, by rw [HSN.out, addSec, if_pos hin]; exact h2.drew, chg_below k2 h2 (Below.refl _ _).drew⟩)
        clear hmi hfew hin h2 k2 hkey hlr hrl
        go_wp2
        go_region_with (fail)
        all_goals
          go_wp2
          go_roundw
          case rel => exact ⟨j + 1, by omega, by omega, by go_num, HIN5.out⟩
          case measure => simp [intOf]; omega
      · rw [if_neg hin] at hlook hmi
        have hlook : (Instr.lookup 57 (.map (some L1.mm)) (.agg #[.int .i64 (f : Int), .int .i64 (j : Int)]) false).run Tryz.prog (wr.alloc (.cells #[.int .i64 (f : Int), .int .i64 (j : Int)] 81)).drew = .ok (.bool false) (wr.alloc (.cells #[.int .i64 (f : Int), .int .i64 (j : Int)] 81)).drew := hlook
        obtain ⟨w4, hup, m4, g4'⟩ := h2.drew.drew.marks.store' (val := .bool true) lawS Tryz.underlying57 (by unfold maxLen; omega) hkey hmi
        have hup : (Instr.mapUpdate 57 (.map (some L1.mm)) (.agg #[.int .i64 (f : Int), .int .i64 (j : Int)]) (.bool true)).run Tryz.prog (wr.alloc (.cells #[.int .i64 (f : Int), .int .i64 (j : Int)] 81)).drew.drew = .ok () w4 := hup
        obtain ⟨h4, k4⟩ := h2.drew.drew.setMarks (mk' := ps ++ [(f, j)]) g4' (Hp.refl _) (m4.congr markMap_snoc (by simp))
        have hmmr : (some wr.heap.size : Option Nat) ≠ some L1.mm := fun e => by
          have h9 := h2.lm
          simp only [Option.some.injEq] at e
          rw [← e, hlr] at h9
          omega
        have b0 := g4'.cell (a := ⟨wr.heap.size, 0, none⟩) a0 hmmr
        have b1 := g4'.cell (a := ⟨wr.heap.size, 1, none⟩) a1 hmmr
        have c1' := h4.c 1
        have f1' := h4.fz 1
        simp only [List.getElem?_toArray, List.getElem?_cons_zero, List.getElem?_cons_succ] at c1'
        obtain ⟨pa, pc, hpv⟩ := own_form h4.pend
        simp only at hpv
        rw [hpv] at c1'
        have hop := h4.drew.pend
        simp only at hop
        rw [hpv] at hop
        obtain ⟨i0, hi, hz0, hz1, hz2'⟩ := info_parts sec_info
        obtain ⟨v', w5, hap, ho5, hg5, _, hl5⟩ := run_append_own_at (P := Tryz.prog) (w4.drew.alloc (.cells #[.int .i64 (f : Int), .int .i64 (j : Int)] 81)) 0 58 58 81 i0 (.agg #[.int .i64 0, .int .i64 0]) 2 16 Tryz.underlying58 hi hz0 hz1 hz2' rfl (by decide) _ _ _ (hop.alloc _) ⟨w4.heap.size, 0, none⟩ 1 1 [.int .i64 (f : Int), .int .i64 (j : Int)] rfl (by
          intro i y hy
          rw [Lib.add_plain]
          match i, hy with
          | 0, hy => simp at hy; subst hy; exact alloc_new_cell w4.drew _ _ 0
          | 1, hy => simp at hy; subst hy; exact alloc_new_cell w4.drew _ _ 1) (by intro y hy; simp at hy; rcases hy with rfl | rfl <;> rfl) (by unfold maxLen; omega) (by omega) (Nat.zero_le _)
        obtain ⟨va', vc', rfl⟩ := own_form ho5
        have g5' : w4.grownBy w5 L1.pv.ownBlock := by
          rw [hpv]
          have q := below_alloc w4.drew (.cells #[.int .i64 (f : Int), .int .i64 (j : Int)] 81)
          exact ⟨hg5.os.trans q.os, hg5.tape.trans q.tape, hg5.output.trans q.output, Nat.le_trans q.size hg5.size, fun i hi hne2 => (hg5.block i (Nat.lt_of_lt_of_le hi q.size) hne2).trans (q.block i hi)⟩
        have hgn : L1.pv.ownBlock ≠ some b := fun e => by have h5 := h4.lp _ e; have h6 := h4.lb; omega
        have d1 := g5'.cell (a := ⟨b, 1, none⟩) c1' (fun e => hgn e.symm)
        have e1 : w5.frozen? ⟨b, 1, none⟩ = false := (World.frozen?_of_block (w := w4) (g5'.block _ h4.blt (fun e => hgn e.symm))).trans f1'
        have hadd : addSec ps (f, j) = ps ++ [(f, j)] := by rw [addSec, if_neg hin]
        have hokp := addSecs_ok (ps := D'.pend) (f := f) (n := n0) HPO.out.1 hf HPO.out.2 (j + 1 - n0) (by omega)
        rw [HSN.out, hadd] at hokp
        have hset5 := h4.setPend (ps := ps ++ [(f, j)]) (v' := .slice va' (ps.length + 1) vc') hokp.1 hokp.2 g5' (by rw [secVs_snoc, List.length_append]; exact ho5) (by
          rw [hpv]
          rcases hl5 with h9 | h9
          · exact .inl h9
          · exact .inr fun i hi => by rw [h9] at hi; simp at hi; omega) (Hp.refl _)
        have HIN5 := Lib.hid (show WriteInv lab id b D' f n0 w (j + 1 - n0) (w5.setCell ⟨b, 1, none⟩ (.slice va' (ps.length + 1) vc')) from
          ⟨_, _, by rw [HSN.out, hadd]; exact hset5.1, ((chg_below k2 h2 ((Below.refl _ _).drew).drew).trans k4).trans hset5.2⟩)
        have c1'' := alloc_cell (w := w4) c1' (.cells #[.int .i64 (f : Int), .int .i64 (j : Int)] 81)
        have HAP := Lib.hid hap
        clear hmi hfew hin h2 k2 hkey hlr hrl hap ho5 hg5 hl5 g5' hgn hadd hokp hset5 hop hpv h4 k4 m4 g4' hmmr hi hz0 hz1 hz2'
        go_wp2
        go_region_with (fail)
        all_goals
          go_wp2
          go_region_with (fail)
        all_goals
          go_wp2
          go_region_law (first | (refine step_append_run (by rfl) _ _ _ _ (by rfl) _ _ (by rfl) (by rfl) _ _ HAP.out ?_))
        all_goals
          go_wp2
          go_roundw
          case rel => exact ⟨j + 1, by omega, by omega, by go_num, HIN5.out⟩
          case measure => simp [intOf]; omega
    · have hjj : j - n0 = K := by omega
      have hinv := HINV.out
      rw [hjj] at hinv
      have HIV := Lib.hid hinv
      clear hinv hjj
      go_wp2
      go_ret
      obtain ⟨lab1, L1, h1, k1⟩ := HIV.out
      exact ⟨rfl, lab1, L1, by rw [HD'.out]; exact h1, k1⟩
end
end Go.Proofs.YtjbcgahdiolhhaaGreatDoor.D2
namespace Go.Proofs.YtjbcgahdiolhhaaGreatDoor.D2
open Go.RowKit Go.Maps Go.ChangeMaps Go.MapKept
open Dp
attribute [local go_sem ↓] Go.wp_at_zero Go.wp_at_succ

/-! ### What is pending stays in its file -/
theorem addSecs_mem {ps : List (Nat × Nat)} {f n : Nat} {q : Nat × Nat} : ∀ k, q ∈ addSecs ps f n k → q ∈ ps ∨ (q.1 = f ∧ q.2 < n + k) := by
  intro k
  induction k with
  | zero => intro h; exact .inl h
  | succ k ih =>
    intro h
    rw [addSecs_snoc] at h
    rcases addSec_mem.1 h with h | rfl
    · exact (ih h).imp id fun h => ⟨h.1, by omega⟩
    · exact .inr ⟨rfl, by show n + k < n + (k + 1); omega⟩
theorem in_put {D : Dk} (h : D.In) (f a : Nat) (s : List UInt8) (hs : 0 < s.length) : (D.put f a s).In := by
  intro q hq
  have hl : ((D.put f a s).now q.1).length = if q.1 = f then max (D.now f).length (a + s.length) else (D.now q.1).length := by
    show (upd D.now f (putL (D.now f) a s) q.1).length = _
    by_cases he : q.1 = f
    · rw [he, upd_same, if_pos rfl, putL_length]
    · rw [upd_other _ _ he, if_neg he]
  rw [hl]
  rcases addSecs_mem _ (show q ∈ addSecs D.pend f (a / 64) ((a + s.length - 1) / 64 + 1 - a / 64) from hq) with h1 | ⟨h1, h2⟩
  · have := h q h1
    split
    · rename_i he; rw [he] at this; omega
    · exact this
  · rw [if_pos h1]; omega
theorem in_wr {D : Dk} (h : D.In) (f a : Int) (s : List UInt8) : (D.wr f a s).2.In := by
  unfold Dk.wr
  split
  · exact h
  · split
    · exact h
    · split
      · exact h
      · rename_i hs
        exact in_put h _ _ _ (by cases s with | nil => exact absurd rfl hs | cons x s => simp)
theorem in_crash {D : Dk} (h : D.In) (ks : List Int) : (D.crash ks).In := by
  unfold Dk.crash
  split
  · exact h
  · intro q hq; cases hq
theorem in_strike {D : Dk} (h : D.In) : D.strike.2.In := by
  unfold Dk.strike
  split
  · exact h
  · split
    · exact in_crash (D := { D with calls := 0 }) h _
    · exact h
theorem in_settle {D : Dk} (h : D.In) (f : Nat) : (D.settle f).In := by
  intro q hq
  have h1 := (hardens_keeps (keepsF f D.pend) D).1
  show 64 * q.2 < ((hardens D (keepsF f D.pend)).now q.1).length
  rw [h1]
  exact h q (List.mem_filter.1 hq).1
theorem in_sync {D : Dk} (h : D.In) (f : Int) : (D.sync f).2.In := by
  have hs := in_strike h
  unfold Dk.sync
  split
  · exact h
  · simp only
    split
    · exact hs
    · split
      · exact hs
      · split
        · exact hs
        · exact in_settle hs _
theorem in_trunc {D : Dk} (h : D.In) (f : Int) (n : Nat) : (D.trunc f n).In := by
  intro q hq
  have hq' : q ∈ D.pend.filter (fun p => p.1 ≠ f.toNat) := hq
  have h1 := (hardens_keeps (keepsF f.toNat D.pend) D).1
  have h2 := List.mem_filter.1 hq'
  show 64 * q.2 < (upd (hardens D (keepsF f.toNat D.pend)).now f.toNat _ q.1).length
  rw [upd_other _ _ (by simpa using h2.2), h1]
  exact h q h2.1
theorem in_truncate {D : Dk} (h : D.In) (f n : Int) : (D.truncate f n).2.In := by
  have hs := in_strike h
  unfold Dk.truncate
  split
  · exact h
  · simp only
    split
    · exact hs
    · split
      · exact hs
      · exact in_trunc hs _ _
theorem in_write {D : Dk} (h : D.In) (f a : Int) (s : List UInt8) : (D.write f a s).2.In := by
  have hs := in_strike (in_wr h f a s)
  unfold Dk.write
  split
  · exact h
  · simp only
    split <;> exact hs

section
variable {w : World} {lab : Nat → Nat} {id b : Nat} {D : Dk} {L : Loc}
theorem res_same (h : DiskIn w lab id b D D.pend L) (r : Value) {P : Program} {f : FuncId} {args : Array Value} (hc : Calls P f args w fun e w' => e = .returned r ∧ w = w') : Calls P f args w (ResPost lab id b r D w) := by
  refine hc.mono ?_
  rintro e w' ⟨rfl, rfl⟩
  exact ⟨rfl, lab, L, h, Chg.refl h.lo⟩

theorem wr_any (h : DiskIn w lab id b D D.pend L) (f a : Int) (s : List UInt8) (hf : I64 f) (ha : I64 a) (hs : s.length ≤ 140737488355327) :
    Calls Tryz.prog 50 #[.pointer (some ⟨b, 0, none⟩), .int .i64 f, .int .i64 a, .string (bs s)] w (ResPost lab id b (.int .i64 (D.wr f a s).1) (D.wr f a s).2 w) := by
  unfold Dk.wr
  split
  · rename_i h1
    exact res_same h _ (write_arg h f a s hf ha h1)
  · rename_i h1
    have hi : isFile f = true := by
      cases hh : isFile f with
      | true => rfl
      | false => exact absurd (.inl hh) h1
    have h0 : 0 ≤ a := by
      rcases Int.lt_or_le a 0 with h2 | h2
      · exact absurd (.inr h2) h1
      · exact h2
    have h16 := isFile_true hi
    split
    · rename_i h2
      have := write_none h f a s hf ha hi h0 hs (.inl h2)
      rw [if_pos h2] at this
      exact res_same h _ this
    · rename_i h2
      split
      · rename_i h3
        have := write_none h f a s hf ha hi h0 hs (.inr h3)
        rw [if_neg h2] at this
        exact res_same h _ this
      · rename_i h3
        have := write_put h f.toNat a.toNat s (by omega) (by omega) (by cases s with | nil => exact absurd rfl h3 | cons x s => simp)
        rw [show ((f.toNat : Nat) : Int) = f by omega, show ((a.toNat : Nat) : Int) = a by omega] at this
        exact this

set_option maxHeartbeats 1000000 in
set_option maxRecDepth 100000 in
theorem write_any (h : DiskIn w lab id b D D.pend L) (hin : D.In) (f a : Int) (s : List UInt8) (hf : I64 f) (ha : I64 a) (hs : s.length ≤ 140737488355327) :
    Calls Tryz.prog 30 #[.pointer (some ⟨b, 0, none⟩), .int .i64 f, .int .i64 a, .string (bs s)] w (ResPost lab id b (.int .i64 (D.write f a s).1) (D.write f a s).2 w) := by
  have c3 := h.c 3
  simp only [List.getElem?_toArray, List.getElem?_cons_zero, List.getElem?_cons_succ] at c3
  cases hd : D.down with
  | true =>
    have hw : D.write f a s = (eDown, D) := by simp [Dk.write, hd]
    rw [hw]
    rw [hd] at c3
    refine res_same h _ ?_
    clear h hin hf ha hs hw
    go_enter Tryz.func30, Tryz.ntmps30
    go_wp2
    go_ret
    exact ⟨rfl, rfl⟩
  | false =>
    rw [hd] at c3
    have H := Lib.hid h
    have HI := Lib.hid (in_wr hin f a s)
    have HF := Lib.hid hf
    have HA := Lib.hid ha
    have HW := Lib.hid (show D.write f a s = if (D.wr f a s).2.strike.1 then (eDown, (D.wr f a s).2.strike.2) else ((D.wr f a s).1, (D.wr f a s).2.strike.2) by simp [Dk.write, hd])
    generalize hr : (D.wr f a s).1 = r at HW
    have HR := Lib.hid hr
    clear h hin hf ha hd hr
    go_enter Tryz.func30, Tryz.ntmps30
    go_wp2_with (go_at_call 50; ((with_reducible refine (wr_any H.out f a s HF.out HA.out hs).mono ?_); rintro e w1 ⟨rfl, lab1, L1, h1, k1⟩; have H1 := Lib.hid h1; have K1 := Lib.hid k1; clear h1 k1; refine Hid.out ?_))
    refine Lib.hid ?_
    rw [HR.out]
    cases hst : (D.wr f a s).2.strike.1 with
    | true =>
      have HST := Lib.hid hst
      clear hst
      go_wp2_with (go_at_call 51; ((with_reducible refine (strike_any H1.out HI.out).mono ?_); rintro e w2 ⟨rfl, lab2, L2, h2, k2⟩; have H2 := Lib.hid h2; have K2 := Lib.hid k2; clear h2 k2; refine Hid.out ?_))
      refine Lib.hid ?_
      rw [HST.out]
      go_wp2
      go_ret
      exact ⟨by rw [HW.out, if_pos HST.out]; rfl, lab2, L2, by rw [HW.out, if_pos HST.out]; exact H2.out, K1.out.trans K2.out⟩
    | false =>
      have HST := Lib.hid hst
      clear hst
      go_wp2_with (go_at_call 51; ((with_reducible refine (strike_any H1.out HI.out).mono ?_); rintro e w2 ⟨rfl, lab2, L2, h2, k2⟩; have H2 := Lib.hid h2; have K2 := Lib.hid k2; clear h2 k2; refine Hid.out ?_))
      refine Lib.hid ?_
      rw [HST.out]
      go_wp2
      go_ret
      have hn : ¬ ((D.wr f a s).2.strike.1 = true) := by rw [HST.out]; simp
      exact ⟨by rw [HW.out, if_neg hn]; rfl, lab2, L2, by rw [HW.out, if_neg hn]; exact H2.out, K1.out.trans K2.out⟩
end
end Go.Proofs.YtjbcgahdiolhhaaGreatDoor.D2
namespace Go.Proofs.YtjbcgahdiolhhaaGreatDoor.D2
open Dp

theorem getD_app (s : List UInt8) (k i : Nat) : (s ++ List.replicate k 0).getD i 0 = s.getD i 0 := by
  rw [List.getD_eq_getElem?_getD, List.getD_eq_getElem?_getD, List.getElem?_append]
  split
  · rfl
  · rename_i h
    rw [List.getElem?_eq_none (by omega : s.length ≤ i), List.getElem?_replicate]
    split <;> rfl
theorem putL_at (s : List UInt8) (a : Nat) (t : List UInt8) (i : Nat) : (putL s a t).getD i 0 = if a ≤ i ∧ i < a + t.length then t.getD (i - a) 0 else s.getD i 0 := by
  have hl : (s ++ List.replicate (a + t.length - s.length) (0 : UInt8)).length = max s.length (a + t.length) := by simp; omega
  have hg := getD_app s (a + t.length - s.length) i
  unfold putL
  simp only
  generalize s ++ List.replicate (a + t.length - s.length) (0 : UInt8) = s' at hl hg
  rw [← hg]
  simp only [List.getD_eq_getElem?_getD, List.getElem?_append, List.length_append, List.length_take, List.getElem?_take, List.getElem?_drop]
  by_cases h1 : i < a
  · rw [if_pos (by omega), if_pos (by omega), if_pos h1, if_neg (by omega)]
  · by_cases h2 : i < a + t.length
    · rw [if_pos (by omega), if_neg (by omega), if_pos (by omega)]
      congr 2; omega
    · rw [if_neg (by omega), if_neg (by omega)]
      congr 2; omega
theorem eq_of_getD {s t : List UInt8} (hl : s.length = t.length) (h : ∀ i, s.getD i 0 = t.getD i 0) : s = t := by
  apply List.ext_getElem hl
  intro i h1 h2
  have := h i
  rw [List.getD_eq_getElem?_getD, List.getD_eq_getElem?_getD, List.getElem?_eq_getElem h1, List.getElem?_eq_getElem h2] at this
  exact this
theorem getD_out {s : List UInt8} {i : Nat} (h : s.length ≤ i) : s.getD i 0 = 0 := by
  rw [List.getD_eq_getElem?_getD, List.getElem?_eq_none h]; rfl
theorem sec_at (s : List UInt8) (n j : Nat) : (sec s n).getD j 0 = if j < 64 then s.getD (64 * n + j) 0 else 0 := by
  simp only [sec, List.getD_eq_getElem?_getD, List.getElem?_take, List.getElem?_drop]
  split <;> rfl
theorem harden_at (D : Dk) (p : Nat × Nat) (f i : Nat) : ((D.harden p).dur f).getD i 0 = if (f, i / 64) = p ∧ i < (D.now f).length then (D.now f).getD i 0 else (D.dur f).getD i 0 := by
  show (upd D.dur p.1 (putL (D.dur p.1) (64 * p.2) (sec (D.now p.1) p.2)) f).getD i 0 = _
  by_cases hf : f = p.1
  · subst hf
    rw [upd_same, putL_at, sec_at, sec_length]
    by_cases h : (p.1, i / 64) = p ∧ i < (D.now p.1).length
    · have h2 : i / 64 = p.2 := congrArg Prod.snd h.1
      rw [if_pos h, if_pos (by omega), if_pos (by omega)]
      congr 1; omega
    · rw [if_neg h]
      by_cases h2 : 64 * p.2 ≤ i ∧ i < 64 * p.2 + min 64 ((D.now p.1).length - 64 * p.2)
      · exact absurd ⟨Prod.ext rfl (by show i / 64 = p.2; omega), by omega⟩ h
      · rw [if_neg h2]
  · rw [upd_other _ _ hf, if_neg]
    rintro ⟨h1, _⟩
    exact hf (congrArg Prod.fst h1)
theorem hardens_at (ps : List (Nat × Nat)) : ∀ (D : Dk) (f i : Nat), ((hardens D ps).dur f).getD i 0 = if (f, i / 64) ∈ ps ∧ i < (D.now f).length then (D.now f).getD i 0 else (D.dur f).getD i 0 := by
  induction ps with
  | nil => intro D f i; rw [if_neg (by simp)]; rfl
  | cons p ps ih =>
    intro D f i
    show ((hardens (D.harden p) ps).dur f).getD i 0 = _
    rw [ih (D.harden p) f i, harden_at]
    show (if (f, i / 64) ∈ ps ∧ i < (D.now f).length then (D.now f).getD i 0 else _) = _
    by_cases h1 : (f, i / 64) ∈ ps <;> by_cases h2 : (f, i / 64) = p <;> by_cases h3 : i < (D.now f).length <;> simp [h1, h2, h3]
theorem harden_len (D : Dk) (p : Nat × Nat) (f : Nat) : ((D.harden p).dur f).length = if f = p.1 then max (D.dur f).length (64 * p.2 + min 64 ((D.now f).length - 64 * p.2)) else (D.dur f).length := by
  show (upd D.dur p.1 (putL (D.dur p.1) (64 * p.2) (sec (D.now p.1) p.2)) f).length = _
  by_cases hf : f = p.1
  · subst hf; rw [upd_same, if_pos rfl, putL_length, sec_length]
  · rw [upd_other _ _ hf, if_neg hf]
theorem hardens_len_le (ps : List (Nat × Nat)) : ∀ (D : Dk) (f : Nat), (∀ p ∈ ps, 64 * p.2 < (D.now p.1).length) → ((hardens D ps).dur f).length ≤ max (D.dur f).length (D.now f).length := by
  induction ps with
  | nil => intro D f _; exact Nat.le_max_left _ _
  | cons p ps ih =>
    intro D f h
    have h1 := ih (D.harden p) f (fun q hq => h q (List.mem_cons_of_mem _ hq))
    have h2 := harden_len D p f
    have h3 := h p (by simp)
    have h4 : ((D.harden p).now f).length = (D.now f).length := rfl
    show ((hardens (D.harden p) ps).dur f).length ≤ _
    rw [h4] at h1
    split at h2
    · rename_i hf; subst hf; omega
    · omega
theorem hardens_len_mono (ps : List (Nat × Nat)) : ∀ (D : Dk) (f : Nat), (D.dur f).length ≤ ((hardens D ps).dur f).length := by
  induction ps with
  | nil => intro D f; exact Nat.le_refl _
  | cons p ps ih =>
    intro D f
    have h1 := ih (D.harden p) f
    have h2 := harden_len D p f
    show _ ≤ ((hardens (D.harden p) ps).dur f).length
    split at h2 <;> omega
theorem hardens_len_ge (ps : List (Nat × Nat)) : ∀ (D : Dk) (p : Nat × Nat), p ∈ ps → 64 * p.2 + min 64 ((D.now p.1).length - 64 * p.2) ≤ ((hardens D ps).dur p.1).length := by
  induction ps with
  | nil => intro D p h; cases h
  | cons q ps ih =>
    intro D p h
    show _ ≤ ((hardens (D.harden q) ps).dur p.1).length
    rcases List.mem_cons.1 h with rfl | h
    · have h1 := hardens_len_mono ps (D.harden p) p.1
      have h2 := harden_len D p p.1
      rw [if_pos rfl] at h2
      omega
    · exact ih (D.harden q) p h
theorem hardens_other (ps : List (Nat × Nat)) : ∀ (D : Dk) (f : Nat), (∀ p ∈ ps, p.1 ≠ f) → (hardens D ps).dur f = D.dur f := by
  induction ps with
  | nil => intro D f _; rfl
  | cons p ps ih =>
    intro D f h
    show (hardens (D.harden p) ps).dur f = _
    rw [ih (D.harden p) f (fun q hq => h q (List.mem_cons_of_mem _ hq))]
    exact upd_other _ _ (fun e => h p (by simp) e.symm)

structure Good (D : Dk) : Prop where
  inn : D.In
  few : ∀ p ∈ D.pend, p.1 < 16
  len : ∀ f, (D.dur f).length ≤ (D.now f).length
  last : ∀ f, (D.dur f).length < (D.now f).length → (f, ((D.now f).length - 1) / 64) ∈ D.pend
  same : ∀ f i, (f, i / 64) ∉ D.pend → (D.dur f).getD i 0 = (D.now f).getD i 0

theorem good_new : Good new := ⟨fun _ h => (by cases h), fun _ h => (by cases h), fun _ => Nat.le_refl _, fun _ h => absurd h (Nat.lt_irrefl _), fun _ _ _ => rfl⟩
theorem Good.settled {D : Dk} (h : Good D) (f : Nat) : (hardens D (keepsF f D.pend)).dur f = D.now f := by
  have hk : ∀ q, q ∈ keepsF f D.pend ↔ q ∈ D.pend ∧ q.1 = f := fun q => by simp [keepsF]
  apply eq_of_getD
  · have h1 := hardens_len_le (keepsF f D.pend) D f (fun p hp => h.inn p ((hk p).1 hp).1)
    have h2 := hardens_len_mono (keepsF f D.pend) D f
    have h3 := h.len f
    rcases Nat.lt_or_ge (D.dur f).length (D.now f).length with h4 | h4
    · have h5 := hardens_len_ge (keepsF f D.pend) D (f, ((D.now f).length - 1) / 64) ((hk _).2 ⟨h.last f h4, rfl⟩)
      simp only at h5
      omega
    · omega
  · intro i
    rw [hardens_at]
    by_cases hi : (f, i / 64) ∈ D.pend
    · by_cases hl : i < (D.now f).length
      · rw [if_pos ⟨(hk _).2 ⟨hi, rfl⟩, hl⟩]
      · rw [if_neg (fun h => hl h.2), getD_out (by have := h.len f; omega), getD_out (by omega)]
    · rw [if_neg (fun h2 => hi ((hk _).1 h2.1).1), h.same f i hi]
theorem Good.out {D : Dk} (h : Good D) {f : Nat} (hf : 16 ≤ f) : D.dur f = D.now f := by
  have hn : ∀ n, (f, n) ∉ D.pend := fun n hm => by have := h.few _ hm; simp only at this; omega
  apply eq_of_getD
  · rcases Nat.lt_or_ge (D.dur f).length (D.now f).length with h4 | h4
    · exact absurd (h.last f h4) (hn _)
    · have := h.len f; omega
  · exact fun i => h.same f i (hn _)
theorem good_settle {D : Dk} (h : Good D) (f : Nat) : Good (D.settle f) := by
  have hk := (hardens_keeps (keepsF f D.pend) D).1
  have hs := h.settled f
  have ho : ∀ g, g ≠ f → (hardens D (keepsF f D.pend)).dur g = D.dur g := fun g hg => hardens_other _ _ _ fun p hp => by
    have : p.1 = f := by simpa [keepsF] using (List.mem_filter.1 hp).2
    omega
  have hm : ∀ q, q ∈ D.pend.filter (fun p => p.1 ≠ f) ↔ q ∈ D.pend ∧ q.1 ≠ f := fun q => by simp
  refine ⟨in_settle h.inn f, fun p hp => h.few p ((hm p).1 hp).1, fun g => ?_, fun g hg => ?_, fun g i hg => ?_⟩
  · show ((hardens D (keepsF f D.pend)).dur g).length ≤ ((hardens D (keepsF f D.pend)).now g).length
    rw [hk]
    by_cases he : g = f
    · subst he; rw [hs]; exact Nat.le_refl _
    · rw [ho g he]; exact h.len g
  · have hg : ((hardens D (keepsF f D.pend)).dur g).length < ((hardens D (keepsF f D.pend)).now g).length := hg
    show (g, (((hardens D (keepsF f D.pend)).now g).length - 1) / 64) ∈ D.pend.filter (fun p => p.1 ≠ f)
    rw [hk] at hg ⊢
    by_cases he : g = f
    · subst he; rw [hs] at hg; omega
    · rw [ho g he] at hg
      exact (hm _).2 ⟨h.last g hg, he⟩
  · show ((hardens D (keepsF f D.pend)).dur g).getD i 0 = ((hardens D (keepsF f D.pend)).now g).getD i 0
    rw [hk]
    by_cases he : g = f
    · subst he; rw [hs]
    · rw [ho g he]
      exact h.same g i fun hm' => hg ((hm _).2 ⟨hm', he⟩)
theorem addSecs_has {ps : List (Nat × Nat)} {f n : Nat} {q : Nat × Nat} : ∀ k, (q ∈ ps ∨ (q.1 = f ∧ n ≤ q.2 ∧ q.2 < n + k)) → q ∈ addSecs ps f n k := by
  intro k
  induction k with
  | zero => rintro (h | h); exact h; omega
  | succ k ih =>
    intro h
    rw [addSecs_snoc]
    refine addSec_mem.2 ?_
    rcases h with h | ⟨h1, h2, h3⟩
    · exact .inl (ih (.inl h))
    · by_cases he : q.2 = n + k
      · exact .inr (Prod.ext h1 he)
      · exact .inl (ih (.inr ⟨h1, h2, by omega⟩))
theorem good_put {D : Dk} (h : Good D) {f a : Nat} {s : List UInt8} (hf : f < 16) (hs : 0 < s.length) : Good (D.put f a s) := by
  have hnow : ∀ g, (D.put f a s).now g = upd D.now f (putL (D.now f) a s) g := fun _ => rfl
  have hin := fun q => addSecs_has (ps := D.pend) (f := f) (n := a / 64) (q := q) ((a + s.length - 1) / 64 + 1 - a / 64)
  refine ⟨in_put h.inn f a s hs, fun p hp => ?_, fun g => ?_, fun g hg => ?_, fun g i hg => ?_⟩
  · rcases addSecs_mem _ (show p ∈ addSecs D.pend f (a / 64) _ from hp) with h1 | ⟨h1, _⟩
    · exact h.few p h1
    · omega
  · rw [hnow]
    show (D.dur g).length ≤ _
    by_cases he : g = f
    · subst he; rw [upd_same, putL_length]; have := h.len g; omega
    · rw [upd_other _ _ he]; exact h.len g
  · rw [hnow] at hg ⊢
    have hg : (D.dur g).length < _ := hg
    refine hin _ ?_
    by_cases he : g = f
    · subst he
      rw [upd_same, putL_length] at hg ⊢
      rcases Nat.lt_or_ge (a + s.length) (D.now g).length with h2 | h2
      · rw [Nat.max_eq_left (by omega)] at hg ⊢
        exact .inl (h.last g hg)
      · rw [Nat.max_eq_right h2]
        exact .inr ⟨rfl, by show a / 64 ≤ _; omega, by show (a + s.length - 1) / 64 < _; omega⟩
    · rw [upd_other _ _ he] at hg ⊢
      exact .inl (h.last g hg)
  · rw [hnow]
    show (D.dur g).getD i 0 = _
    have hnp : (g, i / 64) ∉ D.pend := fun hm => hg (hin _ (.inl hm))
    by_cases he : g = f
    · subst he
      rw [upd_same, putL_at, if_neg]
      · exact h.same g i hnp
      · rintro ⟨h1, h2⟩
        exact hg (hin _ (.inr ⟨rfl, by show a / 64 ≤ i / 64; omega, by show i / 64 < _; omega⟩))
    · rw [upd_other _ _ he]; exact h.same g i hnp
theorem survive_mem {ks : List Int} {q : Nat × Nat} : ∀ (ps : List (Nat × Nat)) (i : Nat), q ∈ survive ks i ps → q ∈ ps := by
  intro ps
  induction ps with
  | nil => intro i h; exact h
  | cons p ps ih =>
    intro i h
    simp only [survive, List.mem_append] at h
    rcases h with h | h
    · split at h
      · simp at h; simp [h]
      · cases h
    · exact List.mem_cons_of_mem _ (ih _ h)
theorem good_crash {D : Dk} (h : Good D) (ks : List Int) : Good (D.crash ks) := by
  unfold Dk.crash
  split
  · exact h
  · have hf := (hardens_keeps (survive ks 0 D.pend) D).1
    have he : ∀ g, (if g < 16 then (hardens D (survive ks 0 D.pend)).dur g else (hardens D (survive ks 0 D.pend)).now g) = (hardens D (survive ks 0 D.pend)).dur g := fun g => by
      split
      · rfl
      · rename_i hg
        rw [hf, ← h.out (by omega : 16 ≤ g), hardens_other _ _ _ fun p hp => ?_]
        have := h.few p (survive_mem _ _ hp)
        omega
    refine ⟨fun _ hp => (by cases hp), fun _ hp => (by cases hp), fun g => ?_, fun g hg => ?_, fun g i _ => ?_⟩
    · show ((hardens D (survive ks 0 D.pend)).dur g).length ≤ (if g < 16 then _ else _ : List UInt8).length
      rw [he]; exact Nat.le_refl _
    · have hg : ((hardens D (survive ks 0 D.pend)).dur g).length < (if g < 16 then (hardens D (survive ks 0 D.pend)).dur g else (hardens D (survive ks 0 D.pend)).now g : List UInt8).length := hg
      rw [he] at hg; omega
    · show ((hardens D (survive ks 0 D.pend)).dur g).getD i 0 = (if g < 16 then _ else _ : List UInt8).getD i 0
      rw [he]
theorem Good.of {D D' : Dk} (h : Good D) (h1 : D'.now = D.now) (h2 : D'.dur = D.dur) (h3 : D'.pend = D.pend) : Good D' :=
  ⟨fun p hp => by rw [h1]; exact h.inn p (h3 ▸ hp), fun p hp => h.few p (h3 ▸ hp), fun f => by rw [h1, h2]; exact h.len f, fun f => by rw [h1, h2, h3]; exact h.last f, fun f i => by rw [h1, h2, h3]; exact h.same f i⟩
theorem good_strike {D : Dk} (h : Good D) : Good D.strike.2 := by
  unfold Dk.strike
  split
  · exact h
  · split
    · exact good_crash (h.of (D' := { D with calls := 0 }) rfl rfl rfl) _
    · exact h.of rfl rfl rfl
theorem good_wr {D : Dk} (h : Good D) (f a : Int) (s : List UInt8) : Good (D.wr f a s).2 := by
  unfold Dk.wr
  split
  · exact h
  · rename_i h1
    split
    · exact h
    · split
      · exact h
      · rename_i hs
        have hi : isFile f = true := by
          cases hh : isFile f with
          | true => rfl
          | false => exact absurd (.inl hh) h1
        have := isFile_true hi
        exact good_put h (by omega) (by cases s with | nil => exact absurd rfl hs | cons x s => simp)
theorem good_write {D : Dk} (h : Good D) (f a : Int) (s : List UInt8) : Good (D.write f a s).2 := by
  have hs := good_strike (good_wr h f a s)
  unfold Dk.write
  split
  · exact h
  · simp only
    split <;> exact hs
theorem good_sync {D : Dk} (h : Good D) (f : Int) : Good (D.sync f).2 := by
  have hs := good_strike h
  unfold Dk.sync
  split
  · exact h
  · simp only
    split
    · exact hs
    · split
      · exact hs
      · split
        · exact hs.of rfl rfl rfl
        · exact good_settle hs _
theorem trunc_now {D : Dk} (f n : Nat) : ∀ g, (D.trunc (f : Int) n).now g = if g = f then (D.now f).take n else D.now g := by
  intro g
  have hk := (hardens_keeps (keepsF f D.pend) D).1
  show upd (hardens D (keepsF f D.pend)).now f (((hardens D (keepsF f D.pend)).now f).take n) g = _
  rw [hk]
  rfl
theorem good_trunc {D : Dk} (h : Good D) (f n : Nat) : Good (D.trunc (f : Int) n) := by
  have hg := good_settle h f
  have h1 : (D.settle f).dur f = (D.settle f).now f := by
    show (hardens D (keepsF f D.pend)).dur f = (hardens D (keepsF f D.pend)).now f
    rw [h.settled f, (hardens_keeps _ D).1]
  have hnow : ∀ g, (D.trunc (f : Int) n).now g = upd (D.settle f).now f (((D.settle f).now f).take n) g := fun _ => rfl
  have hdur : ∀ g, (D.trunc (f : Int) n).dur g = upd (D.settle f).dur f (((D.settle f).dur f).take n) g := fun _ => rfl
  have hp : (D.trunc (f : Int) n).pend = (D.settle f).pend := rfl
  refine ⟨in_trunc h.inn _ _, fun p hp' => hg.few p hp', fun g => ?_, fun g hl => ?_, fun g i hi => ?_⟩
  · rw [hnow, hdur]
    by_cases he : g = f
    · subst he; simp only [upd_same]; rw [h1]; exact Nat.le_refl _
    · simp only [upd_other _ _ he]; exact hg.len g
  · rw [hnow, hdur] at hl
    rw [hnow, hp]
    by_cases he : g = f
    · subst he; simp only [upd_same] at hl; rw [h1] at hl; omega
    · simp only [upd_other _ _ he] at hl ⊢; exact hg.last g hl
  · rw [hnow, hdur]
    by_cases he : g = f
    · subst he; simp only [upd_same]; rw [h1]
    · simp only [upd_other _ _ he]; exact hg.same g i hi
theorem good_truncate {D : Dk} (h : Good D) (f n : Int) : Good (D.truncate f n).2 := by
  have hs := good_strike h
  unfold Dk.truncate
  split
  · exact h
  · simp only
    split
    · exact hs
    · split
      · exact hs
      · rename_i h1
        have hi : isFile f = true := by
          cases hh : isFile f with
          | true => rfl
          | false => exact absurd (.inl hh) h1
        have h2 := isFile_true hi
        have h3 : D.strike.2.trunc f n.toNat = D.strike.2.trunc ((f.toNat : Nat) : Int) n.toNat := by rw [show ((f.toNat : Nat) : Int) = f by omega]
        rw [h3]
        exact good_trunc hs _ _
end Go.Proofs.YtjbcgahdiolhhaaGreatDoor.D2
namespace Go.Proofs.YtjbcgahdiolhhaaGreatDoor.D2
open Go.RowKit Go.Maps Go.ChangeMaps Go.MapKept
open Dp
attribute [local go_sem ↓] Go.wp_at_zero Go.wp_at_succ

/-- The labels of a new disk whose blocks stand in a row from B on. -/
def newLab (lab : Nat → Nat) (id B x : Nat) : Nat :=
  if x < B then lab x else if x = B then id + 1 else if x = B + 1 then id + 2 else if x = B + 2 then id else if x < B + 19 then id + 5 + (x - (B + 3)) else 0
def firstFiles (B k : Nat) : Lit → Option Value
  | .int .i64 f => if 0 ≤ f ∧ f < (k : Int) then some (.pointer (some ⟨B + 3 + f.toNat, 0, none⟩)) else none
  | _ => none
structure NewInv (w : World) (k : Nat) (wr : World) : Prop where
  size : wr.heap.size = w.heap.size + 3 + k
  below : Below w.heap.size w wr
  files : MapIs Tryz.prog wr 3 w.heap.size k (firstFiles w.heap.size k)
  marks : wr.heap[w.heap.size + 1]? = some (.map #[] 0)
  disk : wr.heap[w.heap.size + 2]? = some (.cells #[.map (some w.heap.size), .slice none 0 0, .map (some (w.heap.size + 1)), .bool false, .int .i64 0, .int .i64 0, .slice none 0 0] 60 (0, 0))
  file : ∀ f, f < k → wr.heap[w.heap.size + 3 + f]? = some (.cells #[.slice none 0 0, .slice none 0 0] 64 (0, 0))
theorem newInv_disk {w wr : World} {lab : Nat → Nat} {id : Nat} (h : NewInv w 16 wr) (h64 : 64 ≤ id) :
    DiskIn wr (newLab lab id w.heap.size) id (w.heap.size + 2) new [] { fm := w.heap.size, fc := 16, mm := w.heap.size + 1, g := fun f => w.heap.size + 3 + f, pv := .slice none 0 0, kv := .slice none 0 0, nv := fun _ => .slice none 0 0, dv := fun _ => .slice none 0 0 } ∧ Chg id lab (newLab lab id w.heap.size) w wr := by
  have hs := h.size
  refine ⟨⟨⟨fun _ => Nat.zero_le _, fun _ => Nat.zero_le _, List.nodup_nil, fun _ h => (by cases h), by decide, by decide, fun _ h => (by cases h), by decide⟩, fun x hx => ?_, h64, h.disk, Nat.le_refl _, h.files.congr (fun kl => ?_) rfl, ?_, World.ownsRow_nil _ _ _ _, World.ownsRow_nil _ _ _ _, h.file, fun _ _ => World.ownsRow_nil _ _ _ _, fun _ _ => World.ownsRow_nil _ _ _ _, ?_, ?_, ?_, fun _ h => (by cases h), fun _ h => (by cases h), fun f hf => ?_, fun _ _ _ h => (by cases h), fun _ _ _ h => (by cases h)⟩,
    ⟨h.below.os, h.below.tape, h.below.output, h.below.size, fun x hx => by simp [newLab, hx], fun x hx _ => h.below.block x hx, fun x hx => ?_⟩⟩
  · unfold newLab; (repeat' split) <;> omega
  · unfold fileMap firstFiles; rfl
  · exact ⟨.map [], ⟨#[], 0, h.marks, ⟨by simp, stamped_empty 0, by simp⟩, Nat.le_refl _, rfl⟩, rfl, fun kl _ => by rw [markMap_nil]; simp [DataW.atKey], fun kl => by rw [markMap_nil]; rfl⟩
  · unfold newLab; (repeat' split) <;> omega
  · show newLab lab id w.heap.size w.heap.size = _
    unfold newLab; (repeat' split) <;> omega
  · show newLab lab id w.heap.size (w.heap.size + 1) = _
    unfold newLab; (repeat' split) <;> omega
  · show newLab lab id w.heap.size (w.heap.size + 3 + f) = _
    unfold newLab; (repeat' split) <;> omega
  · unfold newLab; (repeat' split) <;> omega

theorem update_size {P : Program} {w w4 : World} {k : TypeId} {b c : Nat} {m : Lit → Option Value} {t e : TypeId} (h : MapIs P w k b c m) (K : Keyed P k) (ht : P.underlying t = some (.map k e)) (hn : c < maxLen) {key val : Value} {kl : Lit} (hkey : keyOf P k key = some kl)
    (hr : (Instr.mapUpdate t (.map (some b)) key val).run P w = .ok () w4) : w4.heap.size = w.heap.size := by
  obtain ⟨D, h, _⟩ := h
  obtain ⟨w', hr', _, ht'⟩ := h.store K ht hn hkey (val := val) (d := .held val) (ps := []) rfl
  rw [hr] at hr'
  obtain rfl : w4 = w' := by injection hr'
  obtain ⟨es, clock, es', clock', _, rfl⟩ := ht'
  simp [setBlock]
theorem newInv_start (w : World) : NewInv w 0 (((w.alloc (.map #[] 0)).alloc (.map #[] 0)).alloc (.cells #[.map (some w.heap.size), .slice none 0 0, .map (some (w.heap.size + 1)), .bool false, .int .i64 0, .int .i64 0, .slice none 0 0] 60)) where
  size := by simp
  below := (((Below.refl _ w).alloc (Nat.le_refl _) _).alloc (by simp) _).alloc (by simp; omega) _
  files := by
    have h := mapIs_made (P := Tryz.prog) (k := 3) w
    have h1 := h.kept (World.grownBy_alloc _ (.map #[] 0) none) (by simp)
    have h2 := h1.kept (World.grownBy_alloc _ (.cells #[.map (some w.heap.size), .slice none 0 0, .map (some (w.heap.size + 1)), .bool false, .int .i64 0, .int .i64 0, .slice none 0 0] 60) none) (by simp)
    refine h2.congr (fun kl => ?_) rfl
    unfold firstFiles
    split
    · rw [if_neg (by omega)]
    · rfl
  marks := by
    have h1 : ((w.alloc (.map #[] 0)).alloc (.map #[] 0)).heap[w.heap.size + 1]? = some (.map #[] 0) := by
      have := (MapKept.heap_alloc (w.alloc (.map #[] 0)) (.map #[] 0)).1
      simpa using this
    exact ((World.grownBy_alloc _ _ none).block _ (by simp) (by simp)).trans h1
  disk := by
    have := (MapKept.heap_alloc ((w.alloc (.map #[] 0)).alloc (.map #[] 0)) (.cells #[.map (some w.heap.size), .slice none 0 0, .map (some (w.heap.size + 1)), .bool false, .int .i64 0, .int .i64 0, .slice none 0 0] 60)).1
    simpa using this
  file := fun f hf => absurd hf (Nat.not_lt_zero f)
theorem newInv_next {w wr : World} {k : Nat} (h : NewInv w k wr) (hk : k < 16) :
    ∃ w4, (Instr.mapUpdate 56 (.map (some w.heap.size)) (.int .i64 (k : Int)) (.pointer (some ⟨wr.heap.size, 0, none⟩))).run Tryz.prog (wr.alloc (.cells #[.slice none 0 0, .slice none 0 0] 64)) = .ok () w4 ∧ NewInv w (k + 1) w4 := by
  have hA := h.files.kept (World.grownBy_alloc wr (.cells #[.slice none 0 0, .slice none 0 0] 64) none) (by simp)
  obtain ⟨w4, hr, m4, g4⟩ := hA.store (val := .pointer (some ⟨wr.heap.size, 0, none⟩)) lawI Tryz.underlying56 (by unfold maxLen; omega) (keyI (x := (k : Int)) ⟨by omega, by omega⟩) (by show (if 0 ≤ (k : Int) ∧ (k : Int) < (k : Int) then _ else none) = _; rw [if_neg (by omega)])
  have hs := h.size
  have hz4 : w4.heap.size = wr.heap.size + 1 := by
    have := update_size hA lawI Tryz.underlying56 (by unfold maxLen; omega) (keyI (x := (k : Int)) ⟨by omega, by omega⟩) hr
    simpa using this
  have hb : Below wr.heap.size wr (wr.alloc (.cells #[.slice none 0 0, .slice none 0 0] 64)) := below_alloc _ _
  have hblk : ∀ x, x < wr.heap.size → x ≠ w.heap.size → w4.heap[x]? = wr.heap[x]? := fun x hx hne => (g4.block x (by simp; omega) (by simp; exact hne)).trans (hb.block x hx)
  refine ⟨w4, hr, ⟨by omega, ?_, m4.congr (fun kl => ?_) rfl, (hblk _ (by omega) (by omega)).trans h.marks, (hblk _ (by omega) (by omega)).trans h.disk, fun f hf => ?_⟩⟩
  · exact ⟨(g4.os.trans hb.os).trans h.below.os, (g4.tape.trans hb.tape).trans h.below.tape, (g4.output.trans hb.output).trans h.below.output, by omega, fun x hx => (hblk x (by omega) (by omega)).trans (h.below.block x hx)⟩
  · unfold firstFiles
    split
    · rename_i f
      by_cases he : f = (k : Int)
      · subst he
        rw [if_pos (show 0 ≤ (k : Int) ∧ (k : Int) < ((k + 1 : Nat) : Int) by omega), if_pos rfl, hs]
        simp
      · rw [if_neg (show ¬ (Lit.int .i64 f = Lit.int .i64 (k : Int)) by simpa using he)]
        by_cases h2 : 0 ≤ f ∧ f < (k : Int)
        · rw [if_pos (show 0 ≤ f ∧ f < ((k + 1 : Nat) : Int) by omega)]
          show _ = (if 0 ≤ f ∧ f < (k : Int) then _ else none)
          rw [if_pos h2]
        · rw [if_neg (show ¬ (0 ≤ f ∧ f < ((k + 1 : Nat) : Int)) by omega)]
          show _ = (if 0 ≤ f ∧ f < (k : Int) then _ else none)
          rw [if_neg h2]
    · rename_i hx
      rw [if_neg (by rintro rfl; exact hx _ rfl)]
  · by_cases he : f = k
    · subst he
      rw [← hs, g4.block _ (by simp) (by simp; omega)]
      exact (MapKept.heap_alloc wr _).1
    · rw [hblk _ (by omega) (by omega)]
      exact h.file f (by omega)
/-- What a call that makes a disk leaves. -/
def NewPost (lab : Nat → Nat) (id : Nat) (D : Dk) (w : World) (e : Ending) (w' : World) : Prop :=
  ∃ b, e = .returned (.pointer (some ⟨b, 0, none⟩)) ∧ ∃ lab' L', DiskIn w' lab' id b D D.pend L' ∧ Chg id lab lab' w w'

set_option maxHeartbeats 2000000 in
set_option maxRecDepth 100000 in
theorem new_any (w : World) (lab : Nat → Nat) (id : Nat) (h64 : 64 ≤ id) :
    Calls Tryz.prog 6 #[] w (NewPost lab id new w) := by
  have hmm := @run_makeMap Tryz.prog
  go_enter Tryz.func6, Tryz.ntmps6
  go_wp2
  have HST := Lib.hid (newInv_start w)
  generalize (((w.alloc (.map #[] 0)).alloc (.map #[] 0)).alloc (.cells #[.map (some w.heap.size), .slice none 0 0, .map (some (w.heap.size + 1)), .bool false, .int .i64 0, .int .i64 0, .slice none 0 0] 60)) = w1 at HST ⊢
  go_loopw [7] (fun i wr => ∃ k : Nat, k ≤ 16 ∧ i = .int .i64 (k : Int) ∧ NewInv w k wr) (fun i _ => 16 - (intOf i).toNat)
  case atStart => exact ⟨0, by omega, rfl, HST.out⟩
  case round =>
    obtain ⟨k, hk, rfl, hinv⟩ := hrel
    have HINV := Lib.hid hinv
    clear hinv
    by_cases hlt : k < 16
    · obtain ⟨w4, hup, h4⟩ := newInv_next HINV.out hlt
      have c0 : wr.cell? ⟨w.heap.size + 2, 0, none⟩ = some (.map (some w.heap.size)) := by rw [Lib.cell_of_heap HINV.out.disk]; rfl
      have c0' := alloc_cell c0 (.cells #[.slice none 0 0, .slice none 0 0] 64)
      have H4 := Lib.hid h4
      clear h4
      go_wp2
      go_roundw
      case rel => exact ⟨k + 1, by omega, by go_num, H4.out⟩
      case measure => simp [intOf]; omega
    · obtain rfl : k = 16 := by omega
      go_wp2
      go_ret
      obtain ⟨h1, k1⟩ := newInv_disk (lab := lab) HINV.out h64
      exact ⟨_, rfl, _, _, h1, k1⟩
end Go.Proofs.YtjbcgahdiolhhaaGreatDoor.D2
namespace Go.Proofs.YtjbcgahdiolhhaaGreatDoor.D2
open Go.RowKit Go.Maps Go.ChangeMaps Go.MapKept
open Dp

def copyMap (left : Lit → Bool) (g : Nat → Nat) (kl : Lit) : Option Value := if left kl = true then none else fileMap g kl

/-- One file of the copy. -/
structure FileAt (wr : World) (lab' : Nat → Nat) (id' : Nat) (D : Dk) (g : Nat → Nat) (nv dv : Nat → Value) (f : Nat) : Prop where
  blk : wr.heap[g f]? = some (.cells #[nv f, dv f] 64 (0, 0))
  now : wr.ownsRow 0 5 1 (nv f) (D.now f).length (byteVs (D.now f))
  dur : wr.ownsRow 0 5 1 (dv f) (D.dur f).length (byteVs (D.dur f))
  lg : lab' (g f) = id' + 5 + f
  ln : ∀ k, (nv f).ownBlock = some k → lab' k = id' + 21 + f
  ld : ∀ k, (dv f).ownBlock = some k → lab' k = id' + 37 + f

/-- The copy under way: the blocks from w's end on are the copy's struct, its map, the range's iterator, and what has been copied. -/
structure CopyIn (w : World) (lab : Nat → Nat) (id' : Nat) (D : Dk) (L : Loc) (left : Lit → Bool) (cnt : Nat) (wr : World) (lab' g : Nat → Nat) (nv dv : Nat → Value) (c : Nat) : Prop where
  lo : LabOk lab' wr
  labs : ∀ x, x < w.heap.size → lab' x = lab x
  fresh : ∀ x, w.heap.size ≤ x → lab' x = 0 ∨ (id' ≤ lab' x ∧ lab' x < id' + 64)
  below : Below w.heap.size w wr
  size : w.heap.size + 3 ≤ wr.heap.size
  lb : lab' w.heap.size = id'
  lf : lab' (w.heap.size + 1) = id' + 1
  lr : lab' (w.heap.size + 2) = 0
  blk : wr.heap[w.heap.size]? = some (.cells #[.map (some (w.heap.size + 1)), L.pv, .map (some L.mm), .bool D.down, .int .i64 (D.lost : Int), .int .i64 (D.calls : Int), L.kv] 60 (0, 0))
  files : MapIs Tryz.prog wr 3 (w.heap.size + 1) c (copyMap left g)
  cle : c + cnt ≤ 16
  rng : RangeIs Tryz.prog wr 3 L.fm (w.heap.size + 2) L.fc (fileMap L.g) left cnt
  hlm : ∀ kl, left kl = true → (fileMap L.g kl).isSome = true
  done : ∀ f : Nat, f < 16 → left (.int .i64 (f : Int)) = false → FileAt wr lab' id' D g nv dv f

def CopyInv (w : World) (lab : Nat → Nat) (id' : Nat) (D : Dk) (L : Loc) (left : Lit → Bool) (cnt : Nat) (wr : World) : Prop :=
  ∃ lab' g nv dv c, CopyIn w lab id' D L left cnt wr lab' g nv dv c

theorem FileAt.kept {wr w' : World} {lab' lab2 : Nat → Nat} {id' : Nat} {D : Dk} {g g2 : Nat → Nat} {nv dv nv2 dv2 : Nat → Value} {f : Nat} (h : FileAt wr lab' id' D g nv dv f) (hb : ∀ x, x < wr.heap.size → lab' x ≠ 0 → lab' x ≠ id' + 1 → w'.heap[x]? = wr.heap[x]?) (h64 : 64 ≤ id')
    (hl : ∀ x, x < wr.heap.size → lab2 x = lab' x) (hg : g2 f = g f) (hn : nv2 f = nv f) (hd : dv2 f = dv f) : FileAt w' lab2 id' D g2 nv2 dv2 f where
  blk := by rw [hg, hn, hd, hb _ (lt_heap h.blk) (by rw [h.lg]; omega) (by rw [h.lg]; omega)]; exact h.blk
  now := by rw [hn]; exact ownsRow_block h.now fun k hk => hb k (h.now.lt k hk).2 (by rw [h.ln k hk]; omega) (by rw [h.ln k hk]; omega)
  dur := by rw [hd]; exact ownsRow_block h.dur fun k hk => hb k (h.dur.lt k hk).2 (by rw [h.ld k hk]; omega) (by rw [h.ld k hk]; omega)
  lg := by rw [hg, hl _ (lt_heap h.blk)]; exact h.lg
  ln k hk := by rw [hn] at hk; rw [hl k (h.now.lt k hk).2]; exact h.ln k hk
  ld k hk := by rw [hd] at hk; rw [hl k (h.dur.lt k hk).2]; exact h.ld k hk

/-- The iterator has moved. -/
theorem CopyIn.step {w : World} {lab : Nat → Nat} {id' : Nat} {D : Dk} {L : Loc} {left : Lit → Bool} {cnt : Nat} {wr w1 : World} {lab' g : Nat → Nat} {nv dv : Nat → Value} {c : Nat} (h : CopyIn w lab id' D L left cnt wr lab' g nv dv c) (h64 : 64 ≤ id')
    (g1 : wr.grownBy w1 (some (w.heap.size + 2))) (hs : w1.heap.size = wr.heap.size) :
    Below w.heap.size w w1 ∧ MapIs Tryz.prog w1 3 (w.heap.size + 1) c (copyMap left g) ∧ w1.heap[w.heap.size]? = wr.heap[w.heap.size]? ∧ ∀ f : Nat, f < 16 → left (.int .i64 (f : Int)) = false → FileAt w1 lab' id' D g nv dv f := by
  have := h.size
  refine ⟨⟨g1.os.trans h.below.os, g1.tape.trans h.below.tape, g1.output.trans h.below.output, Nat.le_trans h.below.size (by omega), fun x hx => (g1.block x (by omega) (by simp; omega)).trans (h.below.block x hx)⟩, h.files.kept g1 (by simp), g1.block _ (by omega) (by simp), fun f hf hl => (h.done f hf hl).kept (fun x hx h0 _ => g1.block x hx (fun e => by cases e; exact h0 h.lr)) h64 (fun _ _ => rfl) rfl rfl rfl⟩

set_option maxRecDepth 100000 in
theorem copy_next {w : World} {lab : Nat → Nat} {id' : Nat} {D : Dk} {L : Loc} {left : Lit → Bool} {cnt cnt1 : Nat} {wr w1 w2 w3 : World} {lab' g : Nat → Nat} {nv dv : Nat → Value} {c : Nat} (h : CopyIn w lab id' D L left cnt wr lab' g nv dv c) (h64 : 64 ≤ id') {f : Nat} (hf : f < 16)
    (hlf : left (.int .i64 (f : Int)) = true) (g1 : wr.grownBy w1 (some (w.heap.size + 2))) (hs1 : w1.heap.size = wr.heap.size) (rg1 : RangeIs Tryz.prog w1 3 L.fm (w.heap.size + 2) L.fc (fileMap L.g) (fun z => left z && !z.sameKey (.int .i64 (f : Int))) cnt1) (hc : cnt1 < cnt) (hfmlt : L.fm < w.heap.size)
    {v1 v2 : Value} (f1 : FreshRow w1.drew w2 5 1 (D.now f).length (byteVs (D.now f)) v1) (b1 : Below w1.heap.size w1 w2) (f2 : FreshRow w2 w3 5 1 (D.dur f).length (byteVs (D.dur f)) v2) (b2 : Below w2.heap.size w2 w3) :
    ∃ w5, (Instr.mapUpdate 56 (.map (some (w.heap.size + 1))) (.int .i64 (f : Int)) (.pointer (some ⟨w3.heap.size, 0, none⟩))).run Tryz.prog (w3.alloc (.cells #[v1, v2] 64)) = .ok () w5 ∧ CopyInv w lab id' D L (fun z => left z && !z.sameKey (.int .i64 (f : Int))) cnt1 w5 ∧ (∀ x, x < w1.heap.size → x ≠ w.heap.size + 1 → w5.heap[x]? = w1.heap[x]?) := by
  obtain ⟨hb1, hm1, hblk1, hd1⟩ := h.step h64 g1 hs1
  have hz := h.size
  have q1 := b1.size
  have q2 := b2.size
  have hA : ∀ x, x < w1.heap.size → (w3.alloc (.cells #[v1, v2] 64)).heap[x]? = w1.heap[x]? := fun x hx => ((below_alloc w3 _).block x (by omega)).trans ((b2.block x (by omega)).trans (b1.block x hx))
  have hmA : MapIs Tryz.prog (w3.alloc (.cells #[v1, v2] 64)) 3 (w.heap.size + 1) c (copyMap left g) := hm1.block (hA _ (by omega))
  have hnone : copyMap left g (.int .i64 (f : Int)) = none := by unfold copyMap; rw [if_pos hlf]
  have hkey := keyI (x := (f : Int)) ⟨by omega, by omega⟩
  have hcl := h.cle
  obtain ⟨w5, hup, m5, g5⟩ := hmA.store (val := .pointer (some ⟨w3.heap.size, 0, none⟩)) lawI Tryz.underlying56 (by unfold maxLen; omega) hkey hnone
  have hs5 := update_size hmA lawI Tryz.underlying56 (by unfold maxLen; omega) hkey hup
  simp only [World.size_alloc] at hs5
  have h5 : ∀ x, x < w1.heap.size → x ≠ w.heap.size + 1 → w5.heap[x]? = w1.heap[x]? := fun x hx hne => (g5.block x (by simp; omega) (by simp; exact hne)).trans (hA x hx)
  have h53 : ∀ x, x < w3.heap.size → x ≠ w.heap.size + 1 → w5.heap[x]? = w3.heap[x]? := fun x hx hne => (g5.block x (by simp; omega) (by simp; exact hne)).trans ((below_alloc w3 _).block x hx)
  have h52 : ∀ x, x < w2.heap.size → x ≠ w.heap.size + 1 → w5.heap[x]? = w2.heap[x]? := fun x hx hne => (h53 x (by omega) hne).trans (b2.block x hx)
  refine ⟨w5, hup, ⟨fun x => if x < wr.heap.size then lab' x else if v1.ownBlock = some x then id' + 21 + f else if v2.ownBlock = some x then id' + 37 + f else if x = w3.heap.size then id' + 5 + f else 0, upd g f w3.heap.size, upd nv f v1, upd dv f v2, c + 1, ?_⟩, h5⟩
  have v1lt : ∀ k, v1.ownBlock = some k → w1.heap.size ≤ k ∧ k < w2.heap.size := fun k hk => ⟨f1.2 k hk, (f1.1.lt k hk).2⟩
  have v2lt : ∀ k, v2.ownBlock = some k → w2.heap.size ≤ k ∧ k < w3.heap.size := fun k hk => ⟨f2.2 k hk, (f2.1.lt k hk).2⟩
  refine ⟨fun x hx => ?_, fun x hx => ?_, fun x hx => ?_, ?_, by omega, ?_, ?_, ?_, ?_, m5.congr (fun kl => ?_) rfl, by omega, ?_, fun kl hkl => h.hlm kl (by simp at hkl; exact hkl.1), fun i hi hli => ?_⟩
  · rw [if_neg (by omega), if_neg (fun e => by have := v1lt x e; omega), if_neg (fun e => by have := v2lt x e; omega), if_neg (by omega)]
  · rw [if_pos (by omega)]; exact h.labs x hx
  · by_cases h1 : x < wr.heap.size
    · rw [if_pos h1]; exact h.fresh x hx
    · rw [if_neg h1]
      split
      · exact .inr (by omega)
      · split
        · exact .inr (by omega)
        · split
          · exact .inr (by omega)
          · exact .inl rfl
  · exact ⟨(g5.os.trans (below_alloc w3 _).os).trans (b2.os.trans (b1.os.trans hb1.os)), (g5.tape.trans (below_alloc w3 _).tape).trans (b2.tape.trans (b1.tape.trans hb1.tape)), (g5.output.trans (below_alloc w3 _).output).trans (b2.output.trans (b1.output.trans hb1.output)), by omega, fun x hx => (h5 x (by omega) (by omega)).trans (hb1.block x hx)⟩
  · rw [if_pos (by omega)]; exact h.lb
  · rw [if_pos (by omega)]; exact h.lf
  · rw [if_pos (by omega)]; exact h.lr
  · rw [h5 _ (by omega) (by omega), hblk1]; exact h.blk
  · unfold copyMap
    by_cases hk : kl = .int .i64 (f : Int)
    · subst hk
      rw [if_pos rfl, if_neg (by simp [sameKey_int])]
      show (if 0 ≤ (f : Int) ∧ (f : Int) < 16 then _ else none) = _
      rw [if_pos (by omega)]
      simp [upd_same]
    · rw [if_neg hk]
      have hsk : kl.sameKey (.int .i64 (f : Int)) = false := Maps.sameKey_ne hk
      simp only [hsk, Bool.not_false, Bool.and_true]
      split
      · rfl
      · unfold fileMap
        split
        · rename_i x
          split
          · rename_i hx
            rw [upd_other _ _ (fun e => hk (by congr 1; omega))]
          · rfl
        · rfl
  · refine rg1.kept ?_ ?_
    · exact h5 _ (by omega) (by omega)
    · exact h5 _ (by omega) (by omega)
  · by_cases hif : i = f
    · subst hif
      refine ⟨?_, ?_, ?_, ?_, fun k hk => ?_, fun k hk => ?_⟩
      · simp only [upd_same]
        rw [g5.block _ (by simp) (by simp; omega)]
        exact (MapKept.heap_alloc w3 _).1
      · simp only [upd_same]
        exact ownsRow_block f1.1 fun k hk => by have := v1lt k hk; exact h52 k (by omega) (by omega)
      · simp only [upd_same]
        exact ownsRow_block f2.1 fun k hk => by have := v2lt k hk; exact h53 k (by omega) (by omega)
      · simp only [upd_same]
        rw [if_neg (by omega), if_neg (fun e => by have := v1lt _ e; omega), if_neg (fun e => by have := v2lt _ e; omega), if_pos trivial]
      · simp only [upd_same] at hk
        have := v1lt k hk
        rw [if_neg (by omega), if_pos hk]
      · simp only [upd_same] at hk
        have := v2lt k hk
        rw [if_neg (by omega), if_neg (fun e => by have := v1lt _ e; omega), if_pos hk]
    · have hli' : left (.int .i64 (i : Int)) = false := by
        rw [sameKey_int] at hli
        have : ¬ ((i : Int) = (f : Int)) := by omega
        simpa [this] using hli
      refine (hd1 i hi hli').kept (fun x hx _ h1 => h5 x hx (fun e => h1 (by rw [e]; exact h.lf))) h64 (fun x hx => by rw [if_pos (by omega)]) (upd_other _ _ hif) (upd_other _ _ hif) (upd_other _ _ hif)
end Go.Proofs.YtjbcgahdiolhhaaGreatDoor.D2
namespace Go.Proofs.YtjbcgahdiolhhaaGreatDoor.D2
open Go.RowKit Go.Maps Go.ChangeMaps Go.MapKept
open Dp

theorem copy_end {w : World} {lab : Nat → Nat} {id b id' : Nat} {D : Dk} {L : Loc} (h : DiskIn w lab id b D D.pend L) (h64 : 64 ≤ id') {left : Lit → Bool} {cnt : Nat} {wr : World} {lab2 g2 : Nat → Nat} {nv2 dv2 : Nat → Value} {cc : Nat}
    (hi : CopyIn w lab id' D L left cnt wr lab2 g2 nv2 dv2 cc) (hl0 : ∀ kl, left kl = false) {wA wC : World} {vp vk : Value} {es : Array MapEntry} {clock : Nat}
    (bA : Below wr.heap.size wr wA) (fA : FreshRow wr wA 81 2 D.pend.length (secVs D.pend) vp) (hes : w.heap[L.mm]? = some (.map es clock))
    (bC : Below (((wA.setCell ⟨w.heap.size, 1, none⟩ vp).alloc (.map es clock)).setCell ⟨w.heap.size, 2, none⟩ (.map (some wA.heap.size))).heap.size (((wA.setCell ⟨w.heap.size, 1, none⟩ vp).alloc (.map es clock)).setCell ⟨w.heap.size, 2, none⟩ (.map (some wA.heap.size))) wC)
    (fC : FreshRow (((wA.setCell ⟨w.heap.size, 1, none⟩ vp).alloc (.map es clock)).setCell ⟨w.heap.size, 2, none⟩ (.map (some wA.heap.size))) wC 3 1 D.keep.length (intVs D.keep) vk) :
    ∃ lab' L', DiskIn (wC.setCell ⟨w.heap.size, 6, none⟩ vk) lab' id' w.heap.size D D.pend L' ∧ Chg id' lab lab' w (wC.setCell ⟨w.heap.size, 6, none⟩ vk) := by
  have hz := hi.size
  have qA := bA.size
  have hsB : (((wA.setCell ⟨w.heap.size, 1, none⟩ vp).alloc (.map es clock)).setCell ⟨w.heap.size, 2, none⟩ (.map (some wA.heap.size))).heap.size = wA.heap.size + 1 := by rw [set_size]; simp
  have qC := bC.size
  rw [hsB] at qC bC
  have vplt : ∀ k, vp.ownBlock = some k → wr.heap.size ≤ k ∧ k < wA.heap.size := fun k hk => ⟨fA.2 k hk, (fA.1.lt k hk).2⟩
  have vklt : ∀ k, vk.ownBlock = some k → wA.heap.size + 1 ≤ k ∧ k < wC.heap.size := fun k hk => ⟨by have := fC.2 k hk; omega, (fC.1.lt k hk).2⟩
  -- what stands
  have hAC : ∀ x, x < wA.heap.size → x ≠ w.heap.size → (wC.setCell ⟨w.heap.size, 6, none⟩ vk).heap[x]? = wA.heap[x]? := fun x hx hne => by
    rw [set_other hne, bC.block x (by omega), set_other hne, (below_alloc (wA.setCell ⟨w.heap.size, 1, none⟩ vp) _).block x (by rw [set_size]; omega), set_other hne]
  have hRC : ∀ x, x < wr.heap.size → x ≠ w.heap.size → (wC.setCell ⟨w.heap.size, 6, none⟩ vk).heap[x]? = wr.heap[x]? := fun x hx hne => (hAC x (by omega) hne).trans (bA.block x hx)
  have hCC : ∀ x, x < wC.heap.size → x ≠ w.heap.size → (wC.setCell ⟨w.heap.size, 6, none⟩ vk).heap[x]? = wC.heap[x]? := fun x _ hne => set_other hne
  have hmm : (wC.setCell ⟨w.heap.size, 6, none⟩ vk).heap[wA.heap.size]? = some (.map es clock) := by
    rw [set_other (by show wA.heap.size ≠ w.heap.size; omega), bC.block _ (by omega), set_other (by show wA.heap.size ≠ w.heap.size; omega)]
    have := (MapKept.heap_alloc (wA.setCell ⟨w.heap.size, 1, none⟩ vp) (.map es clock)).1
    rwa [set_size] at this
  have hblk : (wC.setCell ⟨w.heap.size, 6, none⟩ vk).heap[w.heap.size]? = some (.cells #[.map (some (w.heap.size + 1)), vp, .map (some wA.heap.size), .bool D.down, .int .i64 (D.lost : Int), .int .i64 (D.calls : Int), vk] 60 (0, 0)) := by
    have e1 : wA.heap[w.heap.size]? = _ := (bA.block _ (by omega)).trans hi.blk
    have e2 := set_heap (o := 1) e1 vp
    have e3 : ((wA.setCell ⟨w.heap.size, 1, none⟩ vp).alloc (.map es clock)).heap[w.heap.size]? = _ := ((below_alloc (wA.setCell ⟨w.heap.size, 1, none⟩ vp) (.map es clock)).block _ (by rw [set_size]; omega)).trans e2
    have e4 := set_heap (o := 2) e3 (.map (some wA.heap.size))
    have e5 : wC.heap[w.heap.size]? = _ := (bC.block _ (by omega)).trans e4
    rw [set_heap (o := 6) e5 vk]
    rfl
  refine ⟨fun x => if x < wr.heap.size then lab2 x else if vp.ownBlock = some x then id' + 3 else if x = wA.heap.size then id' + 2 else if vk.ownBlock = some x then id' + 4 else 0, { fm := w.heap.size + 1, fc := cc, mm := wA.heap.size, g := g2, pv := vp, kv := vk, nv := nv2, dv := dv2 }, ?_, ?_⟩
  · have hF := fun f hf => hi.done f hf (hl0 _)
    refine ⟨h.ok, fun x hx => ?_, h64, hblk, by have := hi.cle; show cc ≤ 16; omega, ?_, ?_, ?_, ?_, fun f hf => ?_, fun f hf => ?_, fun f hf => ?_, ?_, ?_, ?_, fun k hk => ?_, fun k hk => ?_, fun f hf => ?_, fun f hf k hk => ?_, fun f hf k hk => ?_⟩
    · rw [set_size] at hx
      rw [if_neg (by omega), if_neg (fun e => by have := vplt x e; omega), if_neg (by omega), if_neg (fun e => by have := vklt x e; omega)]
    · refine (hi.files.block (hRC _ (by omega) (by omega))).congr (fun kl => ?_) rfl
      unfold copyMap; rw [hl0]; simp
    · obtain ⟨Dm, ⟨es', clock', e1, F, e2, e3⟩, r⟩ := h.marks
      obtain ⟨rfl, rfl⟩ : es' = es ∧ clock' = clock := by rw [hes] at e1; cases e1; exact ⟨rfl, rfl⟩
      exact ⟨Dm, ⟨es', clock', hmm, F, e2, e3⟩, r⟩
    · exact ownsRow_block fA.1 fun k hk => by have := vplt k hk; exact hAC k (by omega) (by omega)
    · exact ownsRow_block fC.1 fun k hk => by have := vklt k hk; exact hCC k (by omega) (by omega)
    · have := hF f hf
      exact (hRC _ (lt_heap this.blk) (fun e => by have q := this.lg; rw [e, hi.lb] at q; omega)).trans this.blk
    · have q := (hF f hf).now
      exact ownsRow_block q fun k hk => hRC k (q.lt k hk).2 (fun e => by have q2 := (hF f hf).ln k hk; rw [e, hi.lb] at q2; omega)
    · have q := (hF f hf).dur
      exact ownsRow_block q fun k hk => hRC k (q.lt k hk).2 (fun e => by have q2 := (hF f hf).ld k hk; rw [e, hi.lb] at q2; omega)
    · rw [if_pos (by omega)]; exact hi.lb
    · show (if w.heap.size + 1 < wr.heap.size then _ else _) = _
      rw [if_pos (by omega)]; exact hi.lf
    · show (if wA.heap.size < wr.heap.size then lab2 wA.heap.size else if vp.ownBlock = some wA.heap.size then id' + 3 else if wA.heap.size = wA.heap.size then id' + 2 else _) = _
      rw [if_neg (by omega), if_neg (fun e => by have := vplt _ e; omega), if_pos rfl]
    · have := vplt k hk
      rw [if_neg (by omega), if_pos hk]
    · have := vklt k hk
      rw [if_neg (by omega), if_neg (fun e => by have := vplt _ e; omega), if_neg (by omega), if_pos hk]
    · have := hF f hf
      show (if g2 f < wr.heap.size then _ else _) = _
      rw [if_pos (lt_heap this.blk)]; exact this.lg
    · have q := hF f hf
      rw [if_pos (q.now.lt k hk).2]; exact q.ln k hk
    · have q := hF f hf
      rw [if_pos (q.dur.lt k hk).2]; exact q.ld k hk
  · have qB := below_alloc (wA.setCell ⟨w.heap.size, 1, none⟩ vp) (.map es clock)
    refine ⟨bC.os.trans (qB.os.trans (bA.os.trans hi.below.os)), bC.tape.trans (qB.tape.trans (bA.tape.trans hi.below.tape)), bC.output.trans (qB.output.trans (bA.output.trans hi.below.output)), by rw [set_size]; omega, fun x hx => ?_, fun x hx _ => (hRC x (by omega) (by omega)).trans (hi.below.block x hx), fun x hx => ?_⟩
    · rw [if_pos (by omega)]; exact hi.labs x hx
    · split
      · exact hi.fresh x hx
      · split
        · exact .inr (by omega)
        · split
          · exact .inr (by omega)
          · split
            · exact .inr (by omega)
            · exact .inl rfl
end Go.Proofs.YtjbcgahdiolhhaaGreatDoor.D2
namespace Go.Proofs.YtjbcgahdiolhhaaGreatDoor.D2
open Go.RowKit Go.Maps Go.ChangeMaps Go.MapKept
open Dp
attribute [local go_sem ↓] Go.wp_at_zero Go.wp_at_succ

section
variable {w : World} {lab : Nat → Nat} {id b : Nat} {D : Dk} {L : Loc}

theorem below_cell {w w' : World} {a : Addr} {v : Value} (h : w.cell? a = some v) (hb : Below w.heap.size w w') : w'.cell? a = some v := by
  rw [hb.cell (Lib.lt_of_cell h)]; exact h
theorem below_drew (w : World) : Below w.heap.size w w.drew := (Below.refl _ _).drew
theorem src_below {w w' : World} {base : Nat} {e : TypeId} {size n : Nat} {v : Value} {xs : List Value} (h : w.ownsRow base e size v n xs) (hb : Below w.heap.size w w') (h1 : ∀ u ∈ xs, u.oneCell' = true) : SrcIs w' size v n xs :=
  SrcIs.of_own (ownsRow_block h fun k hk => hb.block k (h.lt k hk).2) h1

theorem three_below {w w' : World} {a b c : Addr} {u v x : Value} (h : w.cell? a = some u ∧ w.cell? b = some v ∧ w.cell? c = some x) (hb : Below w.heap.size w w') : w'.cell? a = some u ∧ w'.cell? b = some v ∧ w'.cell? c = some x :=
  ⟨below_cell h.1 hb, below_cell h.2.1 hb, below_cell h.2.2 hb⟩
theorem undrew {w w' : World} (h : Below w.drew.heap.size w.drew w') : Below w.heap.size w w' := ⟨h.os, h.tape, h.output, h.size, h.block⟩
theorem copy_three {w1 w5 : World} {B g : Nat} {u v x : Value} (h : w1.cell? ⟨B, 0, none⟩ = some u ∧ w1.cell? ⟨g, 0, none⟩ = some v ∧ w1.cell? ⟨g, 1, none⟩ = some x) (h5 : ∀ y, y < w1.heap.size → y ≠ B + 1 → w5.heap[y]? = w1.heap[y]?) (_ : B ≤ w1.heap.size) (hg : g < B) :
    w5.cell? ⟨B, 0, none⟩ = some u ∧ w5.cell? ⟨g, 0, none⟩ = some v ∧ w5.cell? ⟨g, 1, none⟩ = some x := by
  have q := fun (y : Nat) (hy : y < w1.heap.size) (hne : y ≠ B + 1) (i : Nat) => World.cell?_of_block (w := w1) (w' := w5) (a := ⟨y, i, none⟩) (h5 y hy hne)
  refine ⟨?_, ?_, ?_⟩
  · rw [q B (Lib.lt_of_cell h.1) (by omega)]; exact h.1
  · rw [q g (Lib.lt_of_cell h.2.1) (by omega)]; exact h.2.1
  · rw [q g (Lib.lt_of_cell h.2.1) (by omega)]; exact h.2.2
def startLab (lab : Nat → Nat) (id' B x : Nat) : Nat := if x < B then lab x else if x = B then id' else if x = B + 1 then id' + 1 else 0
theorem copy_start {w w0 : World} {lab : Nat → Nat} {id b id' : Nat} {D : Dk} {L : Loc} (h : DiskIn w lab id b D D.pend L) (h64 : 64 ≤ id') (cs : Array Value) (hcs : cs = #[.map (some (w.heap.size + 1)), L.pv, .map (some L.mm), .bool D.down, .int .i64 (D.lost : Int), .int .i64 (D.calls : Int), L.kv])
    (g0 : ((w.alloc (.cells cs 60)).alloc (.map #[] 0)).grownBy w0 none) (hs0 : w0.heap.size = w.heap.size + 3)
    (rg : RangeIs Tryz.prog w0 3 L.fm (w.heap.size + 2) L.fc (fileMap L.g) (fun kl => (fileMap L.g kl).isSome) L.fc) : CopyInv w lab id' D L (fun kl => (fileMap L.g kl).isSome) L.fc w0 := by
  subst hcs
  have q1 := below_alloc w (.cells #[.map (some (w.heap.size + 1)), L.pv, .map (some L.mm), .bool D.down, .int .i64 (D.lost : Int), .int .i64 (D.calls : Int), L.kv] 60)
  have q2 := below_alloc (w.alloc (.cells #[.map (some (w.heap.size + 1)), L.pv, .map (some L.mm), .bool D.down, .int .i64 (D.lost : Int), .int .i64 (D.calls : Int), L.kv] 60)) (.map #[] 0)
  have hB : ∀ x, x < w.heap.size + 2 → w0.heap[x]? = ((w.alloc (.cells #[.map (some (w.heap.size + 1)), L.pv, .map (some L.mm), .bool D.down, .int .i64 (D.lost : Int), .int .i64 (D.calls : Int), L.kv] 60)).alloc (.map #[] 0)).heap[x]? := fun x hx => g0.block x (by simp; omega) (by simp)
  refine ⟨startLab lab id' w.heap.size, L.g, L.nv, L.dv, 0, ⟨fun x hx => ?_, fun x hx => ?_, fun x hx => ?_, ?_, by omega, ?_, ?_, ?_, ?_, ?_, by have := h.fcl; omega, rg, fun _ h => h, fun f hf hl => ?_⟩⟩
  · unfold startLab; (repeat' split) <;> omega
  · unfold startLab; rw [if_pos hx]
  · unfold startLab; (repeat' split) <;> omega
  · exact ⟨g0.os, g0.tape, g0.output, by omega, fun x hx => (hB x (by omega)).trans ((q2.block x (by simp; omega)).trans (q1.block x hx))⟩
  · unfold startLab; (repeat' split) <;> omega
  · unfold startLab; (repeat' split) <;> omega
  · unfold startLab; (repeat' split) <;> omega
  · rw [hB _ (by omega), q2.block _ (by simp)]
    exact (MapKept.heap_alloc w _).1
  · have hm := mapIs_made (P := Tryz.prog) (k := 3) (w.alloc (.cells #[.map (some (w.heap.size + 1)), L.pv, .map (some L.mm), .bool D.down, .int .i64 (D.lost : Int), .int .i64 (D.calls : Int), L.kv] 60))
    simp only [World.size_alloc] at hm
    refine (hm.block (hB _ (by omega))).congr (fun kl => ?_) rfl
    unfold copyMap
    split
    · rfl
    · rename_i hk
      simpa using hk
  · have : (fileMap L.g (.int .i64 (f : Int))).isSome = true := by
      show (if 0 ≤ (f : Int) ∧ (f : Int) < 16 then some (Value.pointer (some ⟨L.g (f : Int).toNat, 0, none⟩)) else none).isSome = true
      rw [if_pos (by omega)]; rfl
    rw [this] at hl; cases hl

end
end Go.Proofs.YtjbcgahdiolhhaaGreatDoor.D2
namespace Go.Proofs.YtjbcgahdiolhhaaGreatDoor.D2
open Go.RowKit Go.Maps Go.ChangeMaps Go.MapKept
open Dp
attribute [local go_sem ↓] Go.wp_at_zero Go.wp_at_succ

section
variable {w : World} {lab : Nat → Nat} {id b : Nat} {D : Dk} {L : Loc}

set_option maxHeartbeats 2000000 in
set_option maxRecDepth 100000 in
theorem sync_any (h : DiskIn w lab id b D D.pend L) (hin : D.In) (f : Int) (hf : I64 f) :
    Calls Tryz.prog 33 #[.pointer (some ⟨b, 0, none⟩), .int .i64 f] w (ResPost lab id b (.int .i64 (D.sync f).1) (D.sync f).2 w) := by
  have c3 := h.c 3
  simp only [List.getElem?_toArray, List.getElem?_cons_zero, List.getElem?_cons_succ] at c3
  cases hd : D.down with
  | true =>
    have hw : D.sync f = (eDown, D) := by simp [Dk.sync, hd]
    rw [hw]
    rw [hd] at c3
    refine res_same h _ ?_
    clear h hin hf hw
    go_enter Tryz.func33, Tryz.ntmps33
    go_wp2
    go_ret
    exact ⟨rfl, rfl⟩
  | false =>
    rw [hd] at c3
    have H := Lib.hid h
    have HI := Lib.hid hin
    have HF := Lib.hid hf
    have HW := Lib.hid (show D.sync f = if D.strike.1 then (eDown, D.strike.2) else if isFile f = false then (eArg, D.strike.2) else if 0 < D.strike.2.lost then (eLost, { D.strike.2 with lost := D.strike.2.lost - 1 }) else (eOK, D.strike.2.settle f.toNat) by simp [Dk.sync, hd])
    clear h hin hf hd
    cases hst : D.strike.1 with
    | true =>
      have HST := Lib.hid hst
      clear hst
      go_enter Tryz.func33, Tryz.ntmps33
      go_wp2_with (go_at_call 51; ((with_reducible refine (strike_any H.out HI.out).mono ?_); rintro e w2 ⟨rfl, lab2, L2, h2, k2⟩; have H2 := Lib.hid h2; have K2 := Lib.hid k2; clear h2 k2; refine Hid.out ?_))
      refine Lib.hid ?_
      rw [HST.out]
      go_wp2
      go_ret
      exact ⟨by rw [HW.out, if_pos HST.out]; rfl, lab2, L2, by rw [HW.out, if_pos HST.out]; exact H2.out, K2.out⟩
    | false =>
      have HST := Lib.hid (show ¬ (D.strike.1 = true) by rw [hst]; simp)
      have HST2 := Lib.hid hst
      have HI2 := Lib.hid (in_strike HI.out)
      clear hst
      go_enter Tryz.func33, Tryz.ntmps33
      go_wp2_with (go_at_call 51; ((with_reducible refine (strike_any H.out HI.out).mono ?_); rintro e w2 ⟨rfl, lab2, L2, h2, k2⟩; have H2 := Lib.hid h2; have K2 := Lib.hid k2; clear h2 k2; refine Hid.out ?_))
      refine Lib.hid ?_
      rw [HST2.out]
      generalize D.strike.2 = D2 at H2 HW HI2
      have c0 := H2.out.c 0
      have c4 := H2.out.c 4
      have f4 := H2.out.fz 4
      simp only [List.getElem?_toArray, List.getElem?_cons_zero, List.getElem?_cons_succ] at c0 c4
      have hl := H2.out.lookF HF.out
      cases hi : isFile f with
      | false =>
        rw [if_neg (isFile_false hi)] at hl
        have HR := Lib.hid (show D.sync f = (eArg, D2) by rw [HW.out, if_neg HST.out, if_pos hi])
        clear hi
        go_wp2
        go_ret
        exact ⟨by rw [HR.out]; rfl, lab2, L2, by rw [HR.out]; exact H2.out, K2.out⟩
      | true =>
        rw [if_pos (isFile_true hi)] at hl
        have h16 := isFile_true hi
        have hin2 : ¬ (isFile f = false) := by rw [hi]; simp
        rcases Nat.eq_zero_or_pos D2.lost with h0 | h0
        · have HR := Lib.hid (show D.sync f = (eOK, D2.settle f.toNat) by rw [HW.out, if_neg HST.out, if_neg hin2, if_neg (by omega)])
          rw [h0] at c4
          obtain ⟨fn, rfl⟩ : ∃ n : Nat, f = (n : Int) := ⟨f.toNat, by omega⟩
          rw [Int.toNat_natCast] at HR hl
          have hf16 : fn < 16 := by omega
          clear hi hin2 h0
          go_wp2_with (go_at_call 52; ((with_reducible refine (settle_any H2.out HI2.out fn hf16).mono ?_); rintro e w3 ⟨rfl, lab3, L3, h3, k3⟩; have H3 := Lib.hid h3; have K3 := Lib.hid k3; clear h3 k3))
          go_ret
          exact ⟨by rw [HR.out]; rfl, lab3, L3, by rw [HR.out]; exact H3.out, K2.out.trans K3.out⟩
        · have HR := Lib.hid (show D.sync f = (eLost, { D2 with lost := D2.lost - 1 }) by rw [HW.out, if_neg HST.out, if_neg hin2, if_pos h0])
          obtain ⟨c, hc⟩ : ∃ c : Nat, D2.lost = c + 1 := ⟨D2.lost - 1, by omega⟩
          have hcl := H2.out.ok.lost
          rw [hc, show ((c + 1 : Nat) : Int) = (c : Int) + 1 by omega] at c4 hcl
          rw [hc, Nat.add_sub_cancel] at HR
          obtain ⟨h3, k3⟩ := H2.out.setField (D' := { D2 with lost := c }) (i := 4) (v := .int .i64 (c : Int)) (Hp.refl _) ⟨H2.out.ok.now, H2.out.ok.dur, H2.out.ok.pend, H2.out.ok.few, by have : ({ D2 with lost := c } : Dk).lost = c := rfl; rw [this]; omega, H2.out.ok.calls, H2.out.ok.keep, H2.out.ok.size⟩ rfl rfl rfl rfl rfl
          have H3 := Lib.hid h3
          have K3 := Lib.hid k3
          have g3 : (0 : Int) < (c : Int) + 1 := by omega
          have g4 : decide ((0 : Int) < (c : Int) + 1) = true := decide_eq_true g3
          clear hi hin2 h0 hc h3 k3
          go_wp2
          go_ret
          exact ⟨by rw [HR.out]; rfl, lab2, L2, by rw [HR.out]; exact H3.out, K2.out.trans K3.out⟩
end
end Go.Proofs.YtjbcgahdiolhhaaGreatDoor.D2
namespace Go.Proofs.YtjbcgahdiolhhaaGreatDoor.D2
open Go.RowKit Go.Maps Go.ChangeMaps Go.MapKept
open Dp
attribute [local go_sem ↓] Go.wp_at_zero Go.wp_at_succ

/-- Where a slice of bytes begins that was cut off at the front. -/
def cutA (a : Option Addr) (cap lo : Nat) : Option Addr := if cap = lo then a else a.map fun x => x.add lo
theorem slice_from {P : Program} (w : World) {t e : TypeId} (ht : P.underlying t = some (.slice e)) {i : TypeInfo} (hi : P.info? e = some i) (hs : i.size = 1) (a : Option Addr) (len cap lo : Nat) (h1 : lo ≤ len) :
    (Instr.slice t (.slice a len cap) (some (.int .i64 (lo : Int))) none none).run P w = .ok (.slice (cutA a cap lo) (len - lo) (cap - lo)) w := by
  simp [Instr.slice, Instr.sliceBounds, Instr.sliceBound, asIntOf, run_underlying ht, sizeOf, typeInfo, hi, hs, h1, Result.andThen, go_sem, cutA]
theorem slice_to {P : Program} (w : World) {t e : TypeId} (ht : P.underlying t = some (.slice e)) {i : TypeInfo} (hi : P.info? e = some i) (a : Option Addr) (len cap hg : Nat) (h2 : hg ≤ cap) :
    (Instr.slice t (.slice a len cap) none (some (.int .i64 (hg : Int))) none).run P w = .ok (.slice a hg cap) w := by
  have : ∀ s : Nat, a.map (fun x => x.add (0 * s)) = a := fun s => by cases a with | none => rfl | some x => simp [Addr.add]
  simp [Instr.slice, Instr.sliceBounds, Instr.sliceBound, asIntOf, run_underlying ht, sizeOf, typeInfo, hi, h2, Result.andThen, go_sem]

section
variable {w : World} {lab : Nat → Nat} {id b : Nat} {D : Dk} {mk : List (Nat × Nat)} {L : Loc}

/-- string(b) of a part of what a slice holds. -/
theorem conv_part {w : World} {v : Value} {l : List UInt8} (h : w.ownsRow 0 5 1 v l.length (byteVs l)) {a : Option Addr} {cap : Nat} (hv : v = .slice a l.length cap) (lo hg c : Nat) (h1 : lo + hg ≤ l.length) :
    (convert 62 9 (.slice (cutA a cap lo) hg c)).run Tryz.prog w = .ok (.string (bs ((l.drop lo).take hg))) w := by
  subst hv
  rcases Nat.eq_zero_or_pos hg with h0 | h0
  · subst h0
    rw [List.take_zero]
    cases hc : cutA a cap lo with
    | none => exact Lib.run_convert_nil_bytes w 62 9 5 c Tryz.underlying62 Tryz.underlying5 Tryz.underlying9
    | some x => exact run_convert_bytes_back w 62 9 5 x c [] Tryz.underlying62 Tryz.underlying5 Tryz.underlying9 (fun j hj => by simp at hj)
  · rcases h.2 with ⟨_, h2⟩ | ⟨g, cap', cur, hv, _, hgg, hnc, _⟩
    · omega
    · cases hv
      have hca : cutA (some ⟨g, 0, none⟩) cap lo = some ⟨g, lo, none⟩ := by
        unfold cutA
        split
        · omega
        · simp [Lib.add_plain]
      rw [hca]
      have hl : ((l.drop lo).take hg).length = hg := by simp; omega
      have := run_convert_bytes_back w 62 9 5 ⟨g, lo, none⟩ c ((l.drop lo).take hg) Tryz.underlying62 Tryz.underlying5 Tryz.underlying9 (fun j hj => by
        have hj2 : j < hg := by omega
        have hc := h.cells (g := g) rfl (lo + j) (.int .u8 (l[lo + j].toNat : Int)) (by simp [byteVs, show lo + j < l.length by omega])
        rw [Lib.add_plain, Nat.zero_add] at hc
        rw [Lib.add_plain, hc]
        simp)
      rw [hl] at this
      exact this

def ReadPost (r : List UInt8 × Int) (w : World) (e : Ending) (w' : World) : Prop := e = .returned (.tuple #[.string (bs r.1), .int .i64 r.2]) ∧ Hp w w'

set_option maxHeartbeats 2000000 in
set_option maxRecDepth 100000 in
theorem read_any (h : DiskIn w lab id b D mk L) (f a n : Int) (hf : I64 f) (ha : I64 a) (hn : I64 n) :
    Calls Tryz.prog 26 #[.pointer (some ⟨b, 0, none⟩), .int .i64 f, .int .i64 a, .int .i64 n] w (ReadPost (D.read f a n) w) := by
  have c3 := h.c 3
  have c0 := h.c 0
  simp only [List.getElem?_toArray, List.getElem?_cons_zero, List.getElem?_cons_succ] at c3 c0
  have hl := h.lookF hf
  have a1 := ha.1
  have a2 := ha.2
  have n1 := hn.1
  have n2 := hn.2
  have hb0 : bs [] = ⟨#[]⟩ := rfl
  cases hd : D.down with
  | true =>
    rw [hd] at c3
    have HR := Lib.hid (show D.read f a n = ([], eDown) by simp [Dk.read, hd])
    clear h hf ha hn hl hd hb0
    go_enter Tryz.func26, Tryz.ntmps26
    go_wp2
    go_ret2
    rw [HR.out]
    exact ⟨rfl, Hp.refl _⟩
  | false =>
    rw [hd] at c3
    cases hi : isFile f with
    | false =>
      rw [if_neg (isFile_false hi)] at hl
      have HR := Lib.hid (show D.read f a n = ([], eArg) by simp [Dk.read, hd, hi])
      clear h hf ha hn hd hb0 hi
      go_enter Tryz.func26, Tryz.ntmps26
      go_wp2
      go_ret2
      rw [HR.out]
      exact ⟨rfl, Hp.refl _⟩
    | true =>
      rw [if_pos (isFile_true hi)] at hl
      by_cases hneg : a < 0 ∨ n < 0
      · have HR := Lib.hid (show D.read f a n = ([], eArg) by simp only [Dk.read, hd, hi]; rw [if_neg (by simp), if_pos (by rcases hneg with h1 | h1; exact .inr (.inl h1); exact .inr (.inr h1))])
        by_cases h1 : a < 0
        · clear h hf ha hn hd hb0 hi hneg
          go_enter Tryz.func26, Tryz.ntmps26
          go_wp2
          go_ret2
          rw [HR.out]
          exact ⟨rfl, Hp.refl _⟩
        · have h2 : n < 0 := by omega
          clear h hf ha hn hd hb0 hi hneg
          go_enter Tryz.func26, Tryz.ntmps26
          go_wp2
          go_ret2
          rw [HR.out]
          exact ⟨rfl, Hp.refl _⟩
      · have hf16 := isFile_true hi
        have ho := h.now f.toNat (by omega)
        have hlen := h.ok.now f.toNat
        have c1 := h.fc (f := f.toNat) (by omega) 0
        simp only [List.getElem?_toArray, List.getElem?_cons_zero] at c1
        obtain ⟨na, nc, hnv⟩ := own_form ho
        rw [hnv] at c1
        have hcap : (D.now f.toNat).length ≤ nc := by
          rcases ho.2 with ⟨h1, h2⟩ | ⟨g, cap, cur, h1, _, _, h4, _⟩
          · omega
          · rw [hnv] at h1; cases h1; exact h4
        obtain ⟨lo, hlo⟩ : ∃ lo : Nat, lo = min a.toNat (D.now f.toNat).length := ⟨_, rfl⟩
        obtain ⟨hg, hhg⟩ : ∃ hg : Nat, hg = min n.toNat ((D.now f.toNat).length - lo) := ⟨_, rfl⟩
        have HR := Lib.hid (show D.read f a n = (((D.now f.toNat).drop lo).take hg, eOK) by
          simp only [Dk.read, hd, hi]
          rw [if_neg (by simp), if_neg (by simp; omega)]
          congr 1
          apply List.ext_getElem?
          intro i
          simp only [List.getElem?_take, List.getElem?_drop]
          by_cases hin : i < hg
          · rw [if_pos (by omega), if_pos hin]; congr 1; omega
          · rw [if_neg hin]
            split
            · exact List.getElem?_eq_none (by omega)
            · rfl)
        obtain ⟨i0, hif, _, hz1, _⟩ := info_parts byte_info
        have hs1 : ∀ w, (Instr.slice 62 (.slice na (D.now f.toNat).length nc) (some (.int .i64 (lo : Int))) none none).run Tryz.prog w = .ok (.slice (cutA na nc lo) ((D.now f.toNat).length - lo) (nc - lo)) w := fun w => slice_from w Tryz.underlying62 hif hz1 na _ nc lo (by omega)
        have hs2 : ∀ w, (Instr.slice 62 (.slice (cutA na nc lo) ((D.now f.toNat).length - lo) (nc - lo)) none (some (.int .i64 (hg : Int))) none).run Tryz.prog w = .ok (.slice (cutA na nc lo) hg (nc - lo)) w := fun w => slice_to w Tryz.underlying62 hif _ _ _ hg (by omega)
        have hcv : ∀ w', w'.heap = w.heap → (convert 62 9 (.slice (cutA na nc lo) hg (nc - lo))).run Tryz.prog w' = .ok (.string (bs (((D.now f.toNat).drop lo).take hg))) w' := fun w' hw' => conv_part (ownsRow_block ho fun k _ => by rw [hw']) hnv lo hg _ (by omega)
        have hcv2 := hcv w.drew rfl
        have hm1 : min a ((D.now f.toNat).length : Int) = (lo : Int) := by omega
        have hm2 : min n (((D.now f.toNat).length - lo : Nat) : Int) = (hg : Int) := by omega
        have p1 : ¬ a < 0 := by omega
        have p2 : ¬ n < 0 := by omega
        have q1 : (0 : Int) ≤ a := by omega
        have q2 : (0 : Int) ≤ n := by omega
        clear h hf ha hn hd hb0 hi hneg ho hnv hcv hlo hhg hif hz1
        generalize (D.now f.toNat).length = len at *
        obtain ⟨r, hr⟩ : ∃ r, len - lo = r := ⟨_, rfl⟩
        rw [hr] at hm2
        rw [hr] at hs1 hs2
        have hrl : (r : Int) ≤ 16777216 := by omega
        clear hr hf16
        go_enter Tryz.func26, Tryz.ntmps26
        go_wp2
        go_region_with (fail)
        all_goals
          go_wp2
          go_ret2
          rw [HR.out]
          exact ⟨rfl, ⟨rfl, rfl, rfl, rfl⟩⟩
end
end Go.Proofs.YtjbcgahdiolhhaaGreatDoor.D2
namespace Go.Proofs.YtjbcgahdiolhhaaGreatDoor.D2
open Go.RowKit Go.Maps Go.ChangeMaps Go.MapKept
open Dp
attribute [local go_sem ↓] Go.wp_at_zero Go.wp_at_succ

theorem own_take {w : World} {a : Option Addr} {len c n : Nat} {l : List UInt8} (h : w.ownsRow 0 5 1 (.slice a len c) len (byteVs l)) (hl : l.length = len) (hn : n ≤ len) : w.ownsRow 0 5 1 (.slice a n c) (l.take n).length (byteVs (l.take n)) := by
  have h1 : (l.take n).length = n := by simp; omega
  rw [h1]
  refine ⟨by rw [byteVs_length, h1]; omega, ?_⟩
  rcases h.2 with ⟨h2, h3⟩ | ⟨g, cap, cur, h2, h3, h4, h5, h6, h7, h8⟩
  · cases h2
    obtain rfl : n = 0 := by omega
    exact .inl ⟨rfl, rfl⟩
  · cases h2
    refine .inr ⟨g, c, cur, rfl, h3, h4, by omega, h6, h7, ?_⟩
    simp only [Nat.mul_one] at h8 ⊢
    rw [show byteVs (l.take n) = (byteVs l).take n by simp [byteVs, List.map_take], ← h8, List.take_take, Nat.min_eq_left hn]
theorem own_cap {w : World} {base : Nat} {e : TypeId} {size n c : Nat} {a : Option Addr} {xs : List Value} (h : w.ownsRow base e size (.slice a n c) n xs) : n ≤ c := by
  rcases h.2 with ⟨h1, h2⟩ | ⟨g, cap, cur, h1, _, _, h4, _⟩
  · omega
  · cases h1; exact h4

theorem chg_drew {id : Nat} {lab lab' : Nat → Nat} {w w' : World} (h : Chg id lab lab' w w') : Chg id lab lab' w w'.drew := ⟨h.os, h.tape, h.output, h.size, h.labs, h.block, h.fresh⟩
section
variable {w : World} {lab : Nat → Nat} {id b : Nat} {D : Dk} {L : Loc}

set_option maxHeartbeats 4000000 in
set_option maxRecDepth 100000 in
theorem truncate_any (h : DiskIn w lab id b D D.pend L) (hgd : Good D) (f n : Int) (hf : I64 f) (hn : I64 n) :
    Calls Tryz.prog 35 #[.pointer (some ⟨b, 0, none⟩), .int .i64 f, .int .i64 n] w (ResPost lab id b (.int .i64 (D.truncate f n).1) (D.truncate f n).2 w) := by
  have c3 := h.c 3
  simp only [List.getElem?_toArray, List.getElem?_cons_zero, List.getElem?_cons_succ] at c3
  have n1 := hn.1
  have n2 := hn.2
  cases hd : D.down with
  | true =>
    have hw : D.truncate f n = (eDown, D) := by simp [Dk.truncate, hd]
    rw [hw]
    rw [hd] at c3
    refine res_same h _ ?_
    clear h hgd hf hw hn
    go_enter Tryz.func35, Tryz.ntmps35
    go_wp2
    go_ret
    exact ⟨rfl, rfl⟩
  | false =>
    rw [hd] at c3
    have H := Lib.hid h
    have HI := Lib.hid hgd
    have HF := Lib.hid hf
    have HW := Lib.hid (show D.truncate f n = if D.strike.1 then (eDown, D.strike.2) else if isFile f = false ∨ n < 0 ∨ (D.strike.2.size f : Int) < n then (eArg, D.strike.2) else (eOK, D.strike.2.trunc f n.toNat) by simp [Dk.truncate, hd])
    clear h hgd hf hd hn
    cases hst : D.strike.1 with
    | true =>
      have HST := Lib.hid hst
      clear hst
      go_enter Tryz.func35, Tryz.ntmps35
      go_wp2_with (go_at_call 51; ((with_reducible refine (strike_any H.out HI.out.inn).mono ?_); rintro e w2 ⟨rfl, lab2, L2, h2, k2⟩; have H2 := Lib.hid h2; have K2 := Lib.hid k2; clear h2 k2; refine Hid.out ?_))
      refine Lib.hid ?_
      rw [HST.out]
      go_wp2
      go_ret
      exact ⟨by rw [HW.out, if_pos HST.out]; rfl, lab2, L2, by rw [HW.out, if_pos HST.out]; exact H2.out, K2.out⟩
    | false =>
      have HST := Lib.hid (show ¬ (D.strike.1 = true) by rw [hst]; simp)
      have HST2 := Lib.hid hst
      have HI2 := Lib.hid (good_strike HI.out)
      clear hst
      go_enter Tryz.func35, Tryz.ntmps35
      go_wp2_with (go_at_call 51; ((with_reducible refine (strike_any H.out HI.out.inn).mono ?_); rintro e w2 ⟨rfl, lab2, L2, h2, k2⟩; have H2 := Lib.hid h2; have K2 := Lib.hid k2; clear h2 k2; refine Hid.out ?_))
      refine Lib.hid ?_
      rw [HST2.out]
      generalize D.strike.2 = D2 at H2 HW HI2
      have c0 := H2.out.c 0
      simp only [List.getElem?_toArray, List.getElem?_cons_zero] at c0
      have hl := H2.out.lookF HF.out
      cases hi : isFile f with
      | false =>
        rw [if_neg (isFile_false hi)] at hl
        have HR := Lib.hid (show D.truncate f n = (eArg, D2) by rw [HW.out, if_neg HST.out, if_pos (.inl hi)])
        clear hi
        go_wp2
        go_ret
        exact ⟨by rw [HR.out]; rfl, lab2, L2, by rw [HR.out]; exact H2.out, K2.out⟩
      | true =>
        rw [if_pos (isFile_true hi)] at hl
        have h16 := isFile_true hi
        have hin2 : ¬ (isFile f = false) := by rw [hi]; simp
        have hszle : D2.size f ≤ 16777216 := by
          have := H2.out.ok.now f.toNat
          simp only [Dk.size, hi, if_true]; omega
        by_cases hneg : n < 0
        · have HR := Lib.hid (show D.truncate f n = (eArg, D2) by rw [HW.out, if_neg HST.out, if_pos (.inr (.inl hneg))])
          clear hi hin2
          go_wp2
          go_ret
          exact ⟨by rw [HR.out]; rfl, lab2, L2, by rw [HR.out]; exact H2.out, K2.out⟩
        · by_cases hbig : (D2.size f : Int) < n
          · have HR := Lib.hid (show D.truncate f n = (eArg, D2) by rw [HW.out, if_neg HST.out, if_pos (.inr (.inr hbig))])
            clear hi hin2
            go_wp2_with (go_at_call 27; ((with_reducible refine (size_any H2.out f HF.out).mono ?_); rintro e w3 ⟨rfl, rfl⟩))
            go_ret
            exact ⟨by rw [HR.out]; rfl, lab2, L2, by rw [HR.out]; exact H2.out, K2.out⟩
          · have HR := Lib.hid (show D.truncate f n = (eOK, D2.trunc f n.toNat) by rw [HW.out, if_neg HST.out, if_neg (by rintro (h | h | h); exact hin2 h; exact hneg h; exact hbig h)])
            have hsz : D2.size f = (D2.now f.toNat).length := by simp [Dk.size, hi]
            have hle : n ≤ ((D2.now f.toNat).length : Int) := by omega
            obtain ⟨fn, rfl⟩ : ∃ n : Nat, f = (n : Int) := ⟨f.toNat, by omega⟩
            obtain ⟨m, rfl⟩ : ∃ m : Nat, n = (m : Int) := ⟨n.toNat, by omega⟩
            rw [Int.toNat_natCast] at hl hle
            rw [Int.toNat_natCast] at HR
            have hf16 : fn < 16 := by omega
            have HLE := Lib.hid hle
            clear hi hin2 hsz hle h16
            go_wp2_with (first | (go_at_call 27; ((with_reducible refine (size_any H2.out (fn : Int) HF.out).mono ?_); rintro e w3 ⟨rfl, rfl⟩)) | (go_at_call 52; ((with_reducible refine (settle_any H2.out HI2.out.inn fn hf16).mono ?_); rintro e w3 ⟨rfl, lab3, L3, h3, k3⟩; have H3 := Lib.hid h3; have K3 := Lib.hid k3; clear h3 k3; refine Hid.out ?_)))
            refine Lib.hid ?_
            have hds : (D2.settle fn).dur fn = D2.now fn := HI2.out.settled fn
            have hdn : (D2.settle fn).now fn = D2.now fn := by show (hardens D2 (keepsF fn D2.pend)).now fn = _; rw [(hardens_keeps _ _).1]
            have h3 := H3.out
            have c0' := h3.c 0
            have x0 := h3.fc hf16 0
            have x1 := h3.fc hf16 1
            have y0 := h3.ffz hf16 0
            have y1 := h3.ffz hf16 1
            simp only [List.getElem?_toArray, List.getElem?_cons_zero, List.getElem?_cons_succ] at c0' x0 x1
            have hl3 := h3.lookN hf16
            have on := h3.now fn hf16
            have od := h3.dur fn hf16
            rw [hdn] at on
            rw [hds] at od
            obtain ⟨na, nc, hnv⟩ := own_form on
            obtain ⟨da, dc, hdv⟩ := own_form od
            rw [hnv] at on x0
            rw [hdv] at od x1
            have hmn : m ≤ (D2.now fn).length := by have := HLE.out; omega
            have hc1 := own_cap on
            have hc2 := own_cap od
            obtain ⟨i0, hif, _, hz1, _⟩ := info_parts byte_info
            have hs1 : ∀ w, (Instr.slice 62 (.slice na (D2.now fn).length nc) none (some (.int .i64 (m : Int))) none).run Tryz.prog w = .ok (.slice na m nc) w := fun w => slice_to w Tryz.underlying62 hif na _ nc m (by omega)
            have hs2 : ∀ w, (Instr.slice 62 (.slice da (D2.now fn).length dc) none (some (.int .i64 (m : Int))) none).run Tryz.prog w = .ok (.slice da m dc) w := fun w => slice_to w Tryz.underlying62 hif da _ dc m (by omega)
            obtain ⟨h4, k4⟩ := h3.setNow hf16 (r := (D2.now fn).take m) (v' := .slice na m nc) (by have := H2.out.ok.now fn; simp; omega) ⟨rfl, rfl, rfl, Nat.le_refl _, fun _ _ _ => rfl⟩ (own_take on rfl hmn) (by rw [hnv]; exact .inl (own_len _ _ _ _)) (Hp.refl _)
            have od4 : (w3.setCell ⟨L3.g fn, 0, none⟩ (.slice na m nc)).ownsRow 0 5 1 (.slice da m dc) ((D2.now fn).take m).length (byteVs ((D2.now fn).take m)) := by
              have := h4.dur fn hf16
              simp only at this
              rw [hds, hdv] at this
              exact own_take this rfl hmn
            obtain ⟨h5, k5⟩ := h4.setDur hf16 (r := (D2.now fn).take m) (v' := .slice da m dc) (by have := H2.out.ok.now fn; simp; omega) ⟨rfl, rfl, rfl, Nat.le_refl _, fun _ _ _ => rfl⟩ od4 (by simp only; rw [hdv]; exact .inl (own_len _ _ _ _)) (Hp.refl _)
            have HT := Lib.hid (show D2.trunc (fn : Int) m = { (D2.settle fn) with now := upd (D2.settle fn).now fn ((D2.now fn).take m), dur := upd (D2.settle fn).dur fn ((D2.now fn).take m) } by
              have e1 : D2.trunc (fn : Int) m = { (D2.settle fn) with now := upd (D2.settle fn).now fn (((D2.settle fn).now fn).take m), dur := upd (D2.settle fn).dur fn (((D2.settle fn).dur fn).take m) } := rfl
              rw [e1, hdn, hds])
            have H5 := Lib.hid h5
            have K5 := Lib.hid (k4.trans k5)
            clear h3 h4 k4 h5 k5 on od od4 hnv hdv hds hdn hif hz1 hc1 hc2 c0 hl
            generalize hL : (D2.now fn).length = len at *
            have HL := Lib.hid hL
            clear hL
            go_wp2
            go_region_with (fail)
            all_goals
              go_wp2
              go_ret
              exact ⟨by rw [HR.out]; rfl, _, _, by rw [HR.out]; show DiskIn _ _ id b (D2.trunc (fn : Int) m) _ _; rw [HT.out]; exact H5.out.drew, chg_drew ((K2.out.trans K3.out).trans K5.out)⟩
end
end Go.Proofs.YtjbcgahdiolhhaaGreatDoor.D2
namespace Go.Proofs.YtjbcgahdiolhhaaGreatDoor.D2
open Go.RowKit Go.Maps Go.ChangeMaps Go.MapKept
open Dp
attribute [local go_sem ↓] Go.wp_at_zero Go.wp_at_succ

theorem i64_and7 (n : Int) : bits .and .i64 n 7 = n % 8 := by
  have h7 : (BitVec.ofInt 64 7).toNat = 2 ^ 3 - 1 := by decide
  have key : (BitVec.ofInt 64 n &&& BitVec.ofInt 64 7).toNat = (n % ((2 ^ 64 : Nat) : Int)).toNat % 2 ^ 3 := by
    rw [BitVec.toNat_and, BitVec.toNat_ofInt, h7, Nat.and_two_pow_sub_one_eq_mod]
  show IntKind.i64.wrap ((BitVec.ofInt 64 n &&& BitVec.ofInt 64 7).toNat : Nat) = n % 8
  rw [key, IntKind.wrap_i64]
  omega
theorem i64_and3 (n : Int) : bits .and .i64 n 3 = n % 4 := by
  have h7 : (BitVec.ofInt 64 3).toNat = 2 ^ 2 - 1 := by decide
  have key : (BitVec.ofInt 64 n &&& BitVec.ofInt 64 3).toNat = (n % ((2 ^ 64 : Nat) : Int)).toNat % 2 ^ 2 := by
    rw [BitVec.toNat_and, BitVec.toNat_ofInt, h7, Nat.and_two_pow_sub_one_eq_mod]
  show IntKind.i64.wrap ((BitVec.ofInt 64 n &&& BitVec.ofInt 64 3).toNat : Nat) = n % 4
  rw [key, IntKind.wrap_i64]
  omega

/-- An act. -/
structure Act1 where
  K : Int
  F : Int
  N : Int
  S : List UInt8
  Keep : List Int
structure Act1.Ok (x : Act1) : Prop where
  K : I64 x.K
  F : I64 x.F
  N : I64 x.N
  Keep : ∀ z ∈ x.Keep, I64 z
structure ACells (w : World) (b o : Nat) (x : Act1) (vk : Value) : Prop where
  c0 : w.cell? ⟨b, o, none⟩ = some (.int .i64 x.K)
  c1 : w.cell? ⟨b, o + 1, none⟩ = some (.int .i64 x.F)
  c2 : w.cell? ⟨b, o + 2, none⟩ = some (.int .i64 x.N)
  c3 : w.cell? ⟨b, o + 3, none⟩ = some (.string (bs x.S))
  c4 : w.cell? ⟨b, o + 4, none⟩ = some vk
def ActsIn (w : World) (a : Option Addr) (xs : List Act1) : Prop :=
  xs = [] ∨ ∃ b off, a = some ⟨b, off, none⟩ ∧ ∀ i x, xs[i]? = some x → ∃ vk, ACells w b (off + i * 5) x vk ∧ SrcIs w 1 vk x.Keep.length (intVs x.Keep)

def Few1 (x : Act1) : Prop := x.S.length ≤ 300 ∧ x.Keep.length ≤ 60 ∧ ¬ (3000 < x.N ∧ x.N < 16776916)
open Classical in
noncomputable def fewB (xs : List Act1) : Bool := decide (xs.length ≤ 40 ∧ ∀ x ∈ xs, Few1 x)
theorem fewB_true {xs : List Act1} (h : fewB xs = true) : xs.length ≤ 40 ∧ ∀ x ∈ xs, Few1 x := by simpa [fewB] using h
theorem fewB_not {xs : List Act1} (h : ¬ (xs.length ≤ 40 ∧ ∀ x ∈ xs, Few1 x)) : fewB xs = false := by
  unfold fewB; rw [decide_eq_false_iff_not]; exact h
theorem fewB_eq {xs : List Act1} (h : ∀ x ∈ xs, Few1 x) : fewB xs = decide ((xs.length : Int) ≤ 40) := by
  unfold fewB
  rw [decide_eq_decide]
  exact ⟨fun q => by have := q.1; omega, fun q => ⟨by omega, h⟩⟩
theorem ret_bool {a b : Bool} (h : a = b) : Ending.returned (.bool a) = .returned (.bool b) := by rw [h]

theorem src_keep {w w' : World} {size n : Nat} {v : Value} {xs : List Value} (h : SrcIs w size v n xs) (hb : Below w.heap.size w w') : SrcIs w' size v n xs := by
  refine ⟨h.1, ?_⟩
  rcases h.2 with h2 | ⟨ad, cap, hv, h4, h5⟩
  · exact .inl h2
  · exact .inr ⟨ad, cap, hv, fun j u hj => below_cell (h4 j u hj) hb, h5⟩
theorem ActsIn.keep {w w' : World} {a : Option Addr} {xs : List Act1} (h : ActsIn w a xs) (hb : Below w.heap.size w w') : ActsIn w' a xs := by
  rcases h with h | ⟨b, off, h1, h2⟩
  · exact .inl h
  · refine .inr ⟨b, off, h1, fun i x hx => ?_⟩
    obtain ⟨vk, h3, h4⟩ := h2 i x hx
    exact ⟨vk, ⟨below_cell h3.c0 hb, below_cell h3.c1 hb, below_cell h3.c2 hb, below_cell h3.c3 hb, below_cell h3.c4 hb⟩, src_keep h4 hb⟩
theorem ActsIn.get {w : World} {a : Option Addr} {xs : List Act1} (h : ActsIn w a xs) {i : Nat} {x : Act1} (hx : xs[i]? = some x) : ∃ b off vk, a = some ⟨b, off, none⟩ ∧ ACells w b (off + i * 5) x vk ∧ SrcIs w 1 vk x.Keep.length (intVs x.Keep) := by
  rcases h with h | ⟨b, off, h1, h2⟩
  · subst h; simp at hx
  · obtain ⟨vk, h3, h4⟩ := h2 i x hx
    exact ⟨b, off, vk, h1, h3, h4⟩
theorem src_form {w : World} {size n : Nat} {v : Value} {xs : List Value} (h : SrcIs w size v n xs) : ∃ a c, v = .slice a n c := by
  rcases h.2 with ⟨rfl, rfl⟩ | ⟨ad, cap, rfl, _⟩
  · exact ⟨_, _, rfl⟩
  · exact ⟨_, _, rfl⟩

/-- An act, performed. -/
def Dk.act (D : Dk) (x : Act1) : Int × Dk :=
  if x.K % 8 = 2 then D.sync x.F else if x.K % 8 = 3 then D.truncate x.F x.N else if x.K % 8 = 4 then (0, D.lose (x.N % 4))
  else if x.K % 8 = 5 then (0, D.arm x.N x.Keep) else if x.K % 8 = 6 then (0, D.crash x.Keep) else if x.K % 8 = 7 then (0, D.start) else D.write x.F x.N x.S
theorem good_act {D : Dk} (h : Good D) (x : Act1) : Good (Dk.act D x).2 := by
  unfold Dk.act
  split
  · exact good_sync h _
  · split
    · exact good_truncate h _ _
    · split
      · exact h.of rfl rfl rfl
      · split
        · exact h.of rfl rfl rfl
        · split
          · exact good_crash h _
          · split
            · exact h.of rfl rfl rfl
            · exact good_write h _ _ _

section
variable {w : World} {lab : Nat → Nat} {id b : Nat} {D : Dk} {L : Loc}
/-- The call's own list of numbers is no part of the disk. -/
def Outside (lab : Nat → Nat) (id : Nat) (v : Value) : Prop := ∀ ad n c, v = .slice (some ad) n c → 0 < n → (lab ad.block < id ∨ id + 64 ≤ lab ad.block)
end
end Go.Proofs.YtjbcgahdiolhhaaGreatDoor.D2
namespace Go.Proofs.YtjbcgahdiolhhaaGreatDoor.D2
open Go.RowKit Go.Maps Go.ChangeMaps Go.MapKept
open Dp
attribute [local go_sem ↓] Go.wp_at_zero Go.wp_at_succ

section
variable {w : World} {lab : Nat → Nat} {id b : Nat} {D : Dk} {L : Loc}
theorem chg_fresh {w' : World} {mk : List (Nat × Nat)} (h : DiskIn w lab id b D mk L) (hb : Below w.heap.size w w') : Chg id lab lab w w' := chg_below (Chg.refl h.lo) h hb

end
end Go.Proofs.YtjbcgahdiolhhaaGreatDoor.D2
namespace Go.Proofs.YtjbcgahdiolhhaaGreatDoor.D2
open Go.RowKit Go.Maps Go.ChangeMaps Go.MapKept
open Dp
attribute [local go_sem ↓] Go.wp_at_zero Go.wp_at_succ

theorem I64.zero : I64 0 := ⟨by decide, by decide⟩
/-- A disk, with what every disk meets. -/
structure Dg (w : World) (lab : Nat → Nat) (id b : Nat) (D : Dk) : Prop where
  at_ : ∃ L, DiskIn w lab id b D D.pend L
  good : Good D
theorem Dg.other {w w' : World} {lab lab' : Nat → Nat} {id id' b : Nat} {D : Dk} (h : Dg w lab id b D) (k : Chg id' lab lab' w w') (lo : LabOk lab' w') (hne : id' + 64 ≤ id ∨ id + 64 ≤ id') : Dg w' lab' id b D := by
  obtain ⟨⟨L, h1⟩, h2⟩ := h
  exact ⟨⟨L, h1.other k lo hne⟩, h2⟩
theorem Dg.fresh {w w' : World} {lab : Nat → Nat} {id b : Nat} {D : Dk} (h : Dg w lab id b D) (hb : Below w.heap.size w w') : Dg w' lab id b D := by
  obtain ⟨⟨L, h1⟩, h2⟩ := h
  exact ⟨⟨L, h1.fresh hb⟩, h2⟩
theorem Dg.lo {w : World} {lab : Nat → Nat} {id b : Nat} {D : Dk} (h : Dg w lab id b D) : LabOk lab w := by
  obtain ⟨⟨L, h1⟩, _⟩ := h; exact h1.lo
theorem hp_below {w w' : World} (h : Hp w w') : Below w.heap.size w w' := ⟨h.os, h.tape, h.output, by rw [h.heap]; exact Nat.le_refl _, fun k _ => by rw [h.heap]⟩

/-- What a call on a disk leaves: its result, the disk, and what may have changed. -/
def DgPost (lab : Nat → Nat) (id b : Nat) (r : Value) (D' : Dk) (w : World) (e : Ending) (w' : World) : Prop :=
  e = .returned r ∧ ∃ lab', Dg w' lab' id b D' ∧ Chg id lab lab' w w'
section
variable {w : World} {lab : Nat → Nat} {id b : Nat} {D : Dk}
theorem dg_write (h : Dg w lab id b D) (f a : Int) (s : List UInt8) (hf : I64 f) (ha : I64 a) (hs : s.length ≤ 140737488355327) :
    Calls Tryz.prog 30 #[.pointer (some ⟨b, 0, none⟩), .int .i64 f, .int .i64 a, .string (bs s)] w (DgPost lab id b (.int .i64 (D.write f a s).1) (D.write f a s).2 w) := by
  obtain ⟨⟨L, h1⟩, hg⟩ := h
  exact (write_any h1 hg.inn f a s hf ha hs).mono fun e w' ⟨he, lab', L', h2, k⟩ => ⟨he, lab', ⟨⟨L', h2⟩, good_write hg f a s⟩, k⟩
theorem dg_sync (h : Dg w lab id b D) (f : Int) (hf : I64 f) :
    Calls Tryz.prog 33 #[.pointer (some ⟨b, 0, none⟩), .int .i64 f] w (DgPost lab id b (.int .i64 (D.sync f).1) (D.sync f).2 w) := by
  obtain ⟨⟨L, h1⟩, hg⟩ := h
  exact (sync_any h1 hg.inn f hf).mono fun e w' ⟨he, lab', L', h2, k⟩ => ⟨he, lab', ⟨⟨L', h2⟩, good_sync hg f⟩, k⟩
theorem dg_truncate (h : Dg w lab id b D) (f n : Int) (hf : I64 f) (hn : I64 n) :
    Calls Tryz.prog 35 #[.pointer (some ⟨b, 0, none⟩), .int .i64 f, .int .i64 n] w (DgPost lab id b (.int .i64 (D.truncate f n).1) (D.truncate f n).2 w) := by
  obtain ⟨⟨L, h1⟩, hg⟩ := h
  exact (truncate_any h1 hg f n hf hn).mono fun e w' ⟨he, lab', L', h2, k⟩ => ⟨he, lab', ⟨⟨L', h2⟩, good_truncate hg f n⟩, k⟩
theorem dg_start (h : Dg w lab id b D) : Calls Tryz.prog 22 #[.pointer (some ⟨b, 0, none⟩)] w (DgPost lab id b (.tuple #[]) D.start w) := by
  obtain ⟨⟨L, h1⟩, hg⟩ := h
  exact (start_any h1).mono fun e w' ⟨he, h2, k⟩ => ⟨he, lab, ⟨⟨L, h2⟩, hg.of rfl rfl rfl⟩, k⟩
theorem dg_arm (h : Dg w lab id b D) (n : Int) (hn : I64 n) (v : Value) (ks : List Int) (hs : SrcIs w 1 v ks.length (intVs ks)) (hk : ∀ z ∈ ks, I64 z) (hl : ks.length ≤ 1000000) :
    Calls Tryz.prog 18 #[.pointer (some ⟨b, 0, none⟩), .int .i64 n, v] w (DgPost lab id b (.tuple #[]) (D.arm n ks) w) := by
  obtain ⟨⟨L, h1⟩, hg⟩ := h
  exact (arm_any h1 n hn v ks hs hk hl).mono fun e w' ⟨he, lab', L', h2, k⟩ => ⟨he, lab', ⟨⟨L', h2⟩, hg.of rfl rfl rfl⟩, k⟩
theorem dg_crash (h : Dg w lab id b D) (v : Value) (ks : List Int) (hs : SrcIs w 1 v ks.length (intVs ks)) (ho : Outside lab id v) (hl : ks.length ≤ 140737488355327) :
    Calls Tryz.prog 20 #[.pointer (some ⟨b, 0, none⟩), v] w (DgPost lab id b (.tuple #[]) (D.crash ks) w) := by
  obtain ⟨⟨L, h1⟩, hg⟩ := h
  exact (crash_any h1 v ks ⟨hs, .inr ho⟩ hl hg.inn).mono fun e w' ⟨he, lab', L', h2, k⟩ => ⟨he, lab', ⟨⟨L', h2⟩, good_crash hg ks⟩, k⟩
theorem dg_size (h : Dg w lab id b D) (f : Int) (hf : I64 f) : Calls Tryz.prog 27 #[.pointer (some ⟨b, 0, none⟩), .int .i64 f] w fun e w' => e = .returned (.int .i64 (D.size f : Int)) ∧ w = w' := by
  obtain ⟨⟨L, h1⟩, _⟩ := h; exact size_any h1 f hf
theorem dg_read (h : Dg w lab id b D) (f a n : Int) (hf : I64 f) (ha : I64 a) (hn : I64 n) :
    Calls Tryz.prog 26 #[.pointer (some ⟨b, 0, none⟩), .int .i64 f, .int .i64 a, .int .i64 n] w (ReadPost (D.read f a n) w) := by
  obtain ⟨⟨L, h1⟩, _⟩ := h; exact read_any h1 f a n hf ha hn
def MadePost (lab : Nat → Nat) (id : Nat) (D : Dk) (w : World) (e : Ending) (w' : World) : Prop :=
  ∃ b, e = .returned (.pointer (some ⟨b, 0, none⟩)) ∧ ∃ lab', Dg w' lab' id b D ∧ Chg id lab lab' w w'
theorem dg_new (w : World) (lab : Nat → Nat) (id : Nat) (h64 : 64 ≤ id) : Calls Tryz.prog 6 #[] w (MadePost lab id new w) :=
  (new_any w lab id h64).mono fun _ _ ⟨b', he, lab', L', h2, k⟩ => ⟨b', he, lab', ⟨⟨L', h2⟩, good_new⟩, k⟩
end

/-! ### The examples, reckoned -/
def e0 : Dk := new
def e1 : Dk := (e0.write 0 0 [97, 98, 99]).2
def e2 : Dk := (e1.sync 0).2
def e3 : Dk := (e2.write 0 1 [88, 89]).2
def e4 : Dk := (e3.crash [1]).start
def f1 : Dk := (e3.crash [0]).start
def f2 : Dk := (f1.write 1 62 [97, 98, 99, 100]).2
def f3 : Dk := (f2.crash [0, 1]).start
theorem ex1 : (e0.write 0 0 [97, 98, 99]).1 = 0 ∧ (e1.sync 0).1 = 0 ∧ (e3.crash [1]).down = true ∧ (e3.crash [1]).read 0 0 9 = ([], 8) := by decide
theorem ex2 : e4.read 0 0 9 = ([97, 88, 89], 0) ∧ f1.read 0 1 9 = ([98, 99], 0) ∧ (f1.write 1 62 [97, 98, 99, 100]).1 = 0 := by decide
theorem ex3 : f3.read 1 60 100 = ([0, 0, 0, 0, 99, 100], 0) ∧ f3.size 1 = 66 ∧ (f3.write 16 0 []).1 = 1 ∧ ((f3.write 16 0 []).2.write 1 16777216 [97]).1 = 6 := by decide
end Go.Proofs.YtjbcgahdiolhhaaGreatDoor.D2
namespace Go.Proofs.YtjbcgahdiolhhaaGreatDoor.D2
open Go.RowKit Go.Maps Go.ChangeMaps Go.MapKept
open Dp
attribute [local go_sem ↓] Go.wp_at_zero Go.wp_at_succ

/-- All that was there at the start of the call bears no label, and is as it was. -/
structure Under (w0 w : World) (lab : Nat → Nat) : Prop where
  below : Below w0.heap.size w0 w
  labs : ∀ x, x < w0.heap.size → lab x = 0
theorem Under.start (w0 : World) : Under w0 w0 (fun _ => 0) := ⟨Below.refl _ _, fun _ _ => rfl⟩
theorem Under.step {w0 w w' : World} {lab lab' : Nat → Nat} {id : Nat} (h : Under w0 w lab) (k : Chg id lab lab' w w') (h64 : 64 ≤ id) : Under w0 w' lab' :=
  have hs := h.below.size
  ⟨⟨k.os.trans h.below.os, k.tape.trans h.below.tape, k.output.trans h.below.output, Nat.le_trans hs k.size, fun x hx => (k.block x (by omega) (by rw [h.labs x hx]; omega)).trans (h.below.block x hx)⟩, fun x hx => (k.labs x (by omega)).trans (h.labs x hx)⟩
theorem Under.fresh {w0 w w' : World} {lab : Nat → Nat} (h : Under w0 w lab) (hb : Below w.heap.size w w') : Under w0 w' lab := ⟨h.below.trans (hb.mono h.below.size), h.labs⟩

/-- The disks ds lie in w; what was there in w0 is as it was. -/
structure MemL (w0 w : World) (lab : Nat → Nat) (ds : List (Nat × Dk)) : Prop where
  lo : LabOk lab w
  und : Under w0 w lab
  at_ : ∀ i p, ds[i]? = some p → Dg w lab (64 * (i + 1)) p.1 p.2
theorem MemL.fresh {w0 w w' : World} {lab : Nat → Nat} {ds : List (Nat × Dk)} (h : MemL w0 w lab ds) (hb : Below w.heap.size w w') : MemL w0 w' lab ds :=
  ⟨fun x hx => h.lo x (Nat.le_trans hb.size hx), h.und.fresh hb, fun i p hi => (h.at_ i p hi).fresh hb⟩
theorem MemL.drop {w0 w : World} {lab : Nat → Nat} {ds : List (Nat × Dk)} (h : MemL w0 w lab ds) (k : Nat) : MemL w0 w lab (ds.take k) :=
  ⟨h.lo, h.und, fun i p hi => h.at_ i p (by rw [List.getElem?_take] at hi; split at hi; exact hi; cases hi)⟩
theorem MemL.set {w0 w w' : World} {ds : List (Nat × Dk)} {i b : Nat} {D D' : Dk} {lab lab' : Nat → Nat} (h : MemL w0 w lab ds) (hi : ds[i]? = some (b, D))
    (g : Dg w' lab' (64 * (i + 1)) b D') (k : Chg (64 * (i + 1)) lab lab' w w') : MemL w0 w' lab' (ds.set i (b, D')) := by
  refine ⟨g.lo, h.und.step k (by omega), fun j p hj => ?_⟩
  by_cases he : i = j
  · subst he
    obtain ⟨hlt, _⟩ := List.getElem?_eq_some_iff.1 hi
    rw [List.getElem?_set_self hlt] at hj
    cases hj
    exact g
  · rw [List.getElem?_set_ne he] at hj
    exact (h.at_ j p hj).other k g.lo (by omega)
theorem MemL.push {w0 w w' : World} {ds : List (Nat × Dk)} {b : Nat} {D' : Dk} {lab lab' : Nat → Nat} (h : MemL w0 w lab ds)
    (g : Dg w' lab' (64 * (ds.length + 1)) b D') (k : Chg (64 * (ds.length + 1)) lab lab' w w') : MemL w0 w' lab' (ds ++ [(b, D')]) := by
  refine ⟨g.lo, h.und.step k (by omega), fun j p hj => ?_⟩
  rcases Nat.lt_or_ge j ds.length with hl | hl
  · rw [List.getElem?_append_left hl] at hj
    exact (h.at_ j p hj).other k g.lo (by omega)
  · rw [List.getElem?_append_right hl] at hj
    have hz : j - ds.length = 0 := by
      rcases Nat.eq_zero_or_pos (j - ds.length) with h | h
      · exact h
      · rw [List.getElem?_eq_none (by simp; omega)] at hj; cases hj
    rw [hz] at hj
    obtain rfl : j = ds.length := by omega
    simp at hj
    subst hj
    exact g
def Mem (w0 w : World) (ds : List (Nat × Dk)) : Prop := ∃ lab, MemL w0 w lab ds
theorem Mem.start (w0 : World) : Mem w0 w0 [] := ⟨fun _ => 0, fun _ _ => rfl, Under.start w0, fun i p h => by simp at h⟩
theorem Mem.below {w0 w : World} {ds : List (Nat × Dk)} (h : Mem w0 w ds) : Below w0.heap.size w0 w := by obtain ⟨_, h⟩ := h; exact h.und.below
theorem Mem.fresh {w0 w w' : World} {ds : List (Nat × Dk)} (h : Mem w0 w ds) (hb : Below w.heap.size w w') : Mem w0 w' ds := by
  obtain ⟨lab, h⟩ := h; exact ⟨lab, h.fresh hb⟩
theorem Mem.hp {w0 w w' : World} {ds : List (Nat × Dk)} (h : Mem w0 w ds) (hb : Hp w w') : Mem w0 w' ds := h.fresh (hp_below hb)
theorem Mem.drop {w0 w : World} {ds : List (Nat × Dk)} (h : Mem w0 w ds) (k : Nat) : Mem w0 w (ds.take k) := by
  obtain ⟨lab, h⟩ := h; exact ⟨lab, h.drop k⟩

/-- A call on the disk in block b, the i-th: its result, and the disk behind it. -/
def MPost (w0 : World) (ds : List (Nat × Dk)) (i b : Nat) (r : Value) (D' : Dk) (e : Ending) (w' : World) : Prop := e = .returned r ∧ Mem w0 w' (ds.set i (b, D'))
/-- A call that makes a disk. -/
def NPost (w0 : World) (ds : List (Nat × Dk)) (D' : Dk) (e : Ending) (w' : World) : Prop := ∃ b, e = .returned (.pointer (some ⟨b, 0, none⟩)) ∧ Mem w0 w' (ds ++ [(b, D')])

/-- A list of numbers that was there at the start. -/
def Nums (w0 w : World) (v : Value) (ks : List Int) : Prop := SrcIs w 1 v ks.length (intVs ks) ∧ (∀ z ∈ ks, I64 z) ∧ ∀ ad n c, v = .slice (some ad) n c → 0 < n → ad.block < w0.heap.size
theorem Nums.keep {w0 w w' : World} {v : Value} {ks : List Int} (h : Nums w0 w v ks) (hb : Below w.heap.size w w') : Nums w0 w' v ks := ⟨src_keep h.1 hb, h.2⟩
theorem Nums.nil (w0 w : World) : Nums w0 w (.slice none 0 0) [] := ⟨⟨rfl, .inl ⟨rfl, rfl⟩⟩, fun z hz => (by cases hz), fun ad n c hv => (by cases hv)⟩
theorem Nums.to {w0 w : World} {v : Value} {ks : List Int} (h : Nums w0 w0 v ks) (hb : Below w0.heap.size w0 w) : Nums w0 w v ks := ⟨src_keep h.1 hb, h.2⟩

section
variable {w0 w : World} {ds : List (Nat × Dk)} {i b : Nat} {D : Dk}
theorem mem_write (h : Mem w0 w ds) (hi : ds[i]? = some (b, D)) (f a : Int) (s : List UInt8) (hf : I64 f) (ha : I64 a) (hs : s.length ≤ 140737488355327) :
    Calls Tryz.prog 30 #[.pointer (some ⟨b, 0, none⟩), .int .i64 f, .int .i64 a, .string (bs s)] w (MPost w0 ds i b (.int .i64 (D.write f a s).1) (D.write f a s).2) := by
  obtain ⟨lab, h⟩ := h
  exact (dg_write (h.at_ i _ hi) f a s hf ha hs).mono fun e w' ⟨he, lab', g, k⟩ => ⟨he, lab', h.set hi g k⟩
theorem mem_sync (h : Mem w0 w ds) (hi : ds[i]? = some (b, D)) (f : Int) (hf : I64 f) :
    Calls Tryz.prog 33 #[.pointer (some ⟨b, 0, none⟩), .int .i64 f] w (MPost w0 ds i b (.int .i64 (D.sync f).1) (D.sync f).2) := by
  obtain ⟨lab, h⟩ := h
  exact (dg_sync (h.at_ i _ hi) f hf).mono fun e w' ⟨he, lab', g, k⟩ => ⟨he, lab', h.set hi g k⟩
theorem mem_truncate (h : Mem w0 w ds) (hi : ds[i]? = some (b, D)) (f n : Int) (hf : I64 f) (hn : I64 n) :
    Calls Tryz.prog 35 #[.pointer (some ⟨b, 0, none⟩), .int .i64 f, .int .i64 n] w (MPost w0 ds i b (.int .i64 (D.truncate f n).1) (D.truncate f n).2) := by
  obtain ⟨lab, h⟩ := h
  exact (dg_truncate (h.at_ i _ hi) f n hf hn).mono fun e w' ⟨he, lab', g, k⟩ => ⟨he, lab', h.set hi g k⟩
theorem mem_start (h : Mem w0 w ds) (hi : ds[i]? = some (b, D)) : Calls Tryz.prog 22 #[.pointer (some ⟨b, 0, none⟩)] w (MPost w0 ds i b (.tuple #[]) D.start) := by
  obtain ⟨lab, h⟩ := h
  exact (dg_start (h.at_ i _ hi)).mono fun e w' ⟨he, lab', g, k⟩ => ⟨he, lab', h.set hi g k⟩
theorem mem_arm (h : Mem w0 w ds) (hi : ds[i]? = some (b, D)) (n : Int) (hn : I64 n) (v : Value) (ks : List Int) (hs : Nums w0 w v ks) (hl : ks.length ≤ 1000000) :
    Calls Tryz.prog 18 #[.pointer (some ⟨b, 0, none⟩), .int .i64 n, v] w (MPost w0 ds i b (.tuple #[]) (D.arm n ks)) := by
  obtain ⟨lab, h⟩ := h
  exact (dg_arm (h.at_ i _ hi) n hn v ks hs.1 hs.2.1 hl).mono fun e w' ⟨he, lab', g, k⟩ => ⟨he, lab', h.set hi g k⟩
theorem mem_crash (h : Mem w0 w ds) (hi : ds[i]? = some (b, D)) (v : Value) (ks : List Int) (hs : Nums w0 w v ks) (hl : ks.length ≤ 140737488355327) :
    Calls Tryz.prog 20 #[.pointer (some ⟨b, 0, none⟩), v] w (MPost w0 ds i b (.tuple #[]) (D.crash ks)) := by
  obtain ⟨lab, h⟩ := h
  exact (dg_crash (h.at_ i _ hi) v ks hs.1 (fun ad n c hv hn => .inl (by rw [h.und.labs _ (hs.2.2 ad n c hv hn)]; omega)) hl).mono fun e w' ⟨he, lab', g, k⟩ => ⟨he, lab', h.set hi g k⟩
theorem mem_crash_new {w1 : World} (h : Mem w0 w ds) (hb : Below w.heap.size w w1) (hi : ds[i]? = some (b, D)) (v : Value) (ks : List Int) (hs : SrcIs w1 1 v ks.length (intVs ks)) (hv : ∀ ad n c, v = .slice (some ad) n c → w.heap.size ≤ ad.block) (hl : ks.length ≤ 140737488355327) :
    Calls Tryz.prog 20 #[.pointer (some ⟨b, 0, none⟩), v] w1 (MPost w0 ds i b (.tuple #[]) (D.crash ks)) := by
  obtain ⟨lab, h⟩ := h
  exact (dg_crash ((h.at_ i _ hi).fresh hb) v ks hs (fun ad n c hv' _ => .inl (by rw [h.lo _ (hv ad n c hv')]; omega)) hl).mono fun e w' ⟨he, lab', g, k⟩ => ⟨he, lab', (h.fresh hb).set hi g k⟩
theorem mem_size (h : Mem w0 w ds) (hi : ds[i]? = some (b, D)) (f : Int) (hf : I64 f) : Calls Tryz.prog 27 #[.pointer (some ⟨b, 0, none⟩), .int .i64 f] w fun e w' => e = .returned (.int .i64 (D.size f : Int)) ∧ w = w' := by
  obtain ⟨lab, h⟩ := h
  exact dg_size (h.at_ i _ hi) f hf
theorem mem_read (h : Mem w0 w ds) (hi : ds[i]? = some (b, D)) (f a n : Int) (hf : I64 f) (ha : I64 a) (hn : I64 n) :
    Calls Tryz.prog 26 #[.pointer (some ⟨b, 0, none⟩), .int .i64 f, .int .i64 a, .int .i64 n] w fun e w' => e = .returned (.tuple #[.string (bs (D.read f a n).1), .int .i64 (D.read f a n).2]) ∧ Mem w0 w' ds := by
  have hm := h
  obtain ⟨lab, h⟩ := h
  exact (dg_read (h.at_ i _ hi) f a n hf ha hn).mono fun e w' ⟨he, hp⟩ => ⟨he, hm.hp hp⟩
theorem mem_new (h : Mem w0 w ds) : Calls Tryz.prog 6 #[] w (NPost w0 ds new) := by
  obtain ⟨lab, h⟩ := h
  exact (dg_new w lab (64 * (ds.length + 1)) (by omega)).mono fun e w' ⟨b', he, lab', g, k⟩ => ⟨b', he, lab', h.push g k⟩
end
end Go.Proofs.YtjbcgahdiolhhaaGreatDoor.D2
namespace Go.Proofs.YtjbcgahdiolhhaaGreatDoor.D2
open Dp

/-! ### Acts, one after the other -/
def play (D : Dk) (xs : List Act1) : Dk := xs.foldl (fun D x => (Dk.act D x).2) D
theorem play_snoc (D : Dk) (xs : List Act1) (x : Act1) : play D (xs ++ [x]) = (Dk.act (play D xs) x).2 := by simp [play]
theorem play_take {D : Dk} {xs : List Act1} {k : Nat} {x : Act1} (h : xs[k]? = some x) : play D (xs.take (k + 1)) = (Dk.act (play D (xs.take k)) x).2 := by
  obtain ⟨hk, rfl⟩ := List.getElem?_eq_some_iff.1 h
  rw [List.take_succ_eq_append_getElem hk, play_snoc]
theorem good_play {D : Dk} (h : Good D) (xs : List Act1) : Good (play D xs) := by
  induction xs generalizing D with
  | nil => exact h
  | cons x xs ih => exact ih (good_act h x)

/-! ### The list that a scheduled crash keeps -/
theorem crash_keep (D : Dk) (ks : List Int) : (D.crash ks).keep.length ≤ D.keep.length := by
  unfold Dk.crash; split
  · exact Nat.le_refl _
  · exact Nat.zero_le _
theorem strike_keep (D : Dk) : D.strike.2.keep.length ≤ D.keep.length := by
  unfold Dk.strike; split
  · exact Nat.le_refl _
  · split
    · exact crash_keep { D with calls := 0 } _
    · exact Nat.le_refl _
theorem wr_keep (D : Dk) (f a : Int) (s : List UInt8) : (D.wr f a s).2.keep = D.keep := by
  unfold Dk.wr; split
  · rfl
  · split
    · rfl
    · split <;> rfl
theorem write_keep (D : Dk) (f a : Int) (s : List UInt8) : (D.write f a s).2.keep.length ≤ D.keep.length := by
  have h := strike_keep (D.wr f a s).2
  rw [wr_keep] at h
  unfold Dk.write; split
  · exact Nat.le_refl _
  · simp only; split <;> exact h
theorem settle_keep (D : Dk) (f : Nat) : (D.settle f).keep = D.keep := (hardens_keeps (keepsF f D.pend) D).2.2.2.2.2
theorem sync_keep (D : Dk) (f : Int) : (D.sync f).2.keep.length ≤ D.keep.length := by
  have h := strike_keep D
  unfold Dk.sync; split
  · exact Nat.le_refl _
  · simp only; split
    · exact h
    · split
      · exact h
      · split
        · exact h
        · show (D.strike.2.settle _).keep.length ≤ _
          rw [settle_keep]; exact h
theorem truncate_keep (D : Dk) (f n : Int) : (D.truncate f n).2.keep.length ≤ D.keep.length := by
  have h := strike_keep D
  unfold Dk.truncate; split
  · exact Nat.le_refl _
  · simp only; split
    · exact h
    · split
      · exact h
      · show (D.strike.2.settle _).keep.length ≤ _
        rw [settle_keep]; exact h
theorem act_keep {D : Dk} {x : Act1} {n : Nat} (h : D.keep.length ≤ n) (hx : x.Keep.length ≤ n) : (Dk.act D x).2.keep.length ≤ n := by
  unfold Dk.act
  split
  · exact Nat.le_trans (sync_keep _ _) h
  · split
    · exact Nat.le_trans (truncate_keep _ _ _) h
    · split
      · exact h
      · split
        · exact hx
        · split
          · exact Nat.le_trans (crash_keep _ _) h
          · split
            · exact h
            · exact Nat.le_trans (write_keep _ _ _ _) h
theorem play_keep {D : Dk} {xs : List Act1} {n : Nat} (h : D.keep.length ≤ n) (hx : ∀ x ∈ xs, x.Keep.length ≤ n) : (play D xs).keep.length ≤ n := by
  induction xs generalizing D with
  | nil => exact h
  | cons x xs ih => exact ih (act_keep h (hx x (by simp))) (fun y hy => hx y (List.mem_cons_of_mem _ hy))

/-! ### What a disk says when nothing is scheduled -/
theorem isFile_of {f : Int} (h1 : ¬ f < 0) (h2 : ¬ 15 < f) : isFile f = true := by unfold isFile; rw [decide_eq_true_iff]; omega
theorem isFile_not {f : Int} (h : f < 0 ∨ 15 < f) : isFile f = false := by unfold isFile; rw [decide_eq_false_iff_not]; omega
theorem strike_none {D : Dk} (h : D.calls = 0) : D.strike = (false, D) := by unfold Dk.strike; rw [if_pos h]
theorem wr_calls (D : Dk) (f a : Int) (s : List UInt8) : (D.wr f a s).2.calls = D.calls := by
  unfold Dk.wr; split
  · rfl
  · split
    · rfl
    · split <;> rfl
theorem wr_down (D : Dk) (f a : Int) (s : List UInt8) : (D.wr f a s).2.down = D.down := by
  unfold Dk.wr; split
  · rfl
  · split
    · rfl
    · split <;> rfl
theorem write_up {D : Dk} (h : D.calls = 0) (hd : D.down = false) (f a : Int) (s : List UInt8) : D.write f a s = D.wr f a s := by
  have h1 := strike_none (D := (D.wr f a s).2) (by rw [wr_calls, h])
  unfold Dk.write
  rw [hd]
  simp only [h1]
  rfl
theorem write_refused {D : Dk} (h : D.calls = 0) {f : Int} (hb : D.down = true ∨ isFile f = false) (a : Int) (s : List UInt8) : (D.write f a s).1 ≠ 0 := by
  by_cases hd : D.down = true
  · unfold Dk.write; rw [if_pos hd]; exact (by decide : (8 : Int) ≠ 0)
  · have hf : isFile f = false := by rcases hb with h | h; exact absurd h hd; exact h
    rw [write_up h (by simpa using hd)]
    unfold Dk.wr; rw [if_pos (.inl hf)]; exact (by decide : (1 : Int) ≠ 0)
theorem read_up {D : Dk} (hd : D.down = false) {f : Int} (hf : isFile f = true) {a n : Int} (ha : 0 ≤ a) (hn : 0 ≤ n) : D.read f a n = (((D.now f.toNat).drop a.toNat).take n.toNat, 0) := by
  unfold Dk.read
  rw [hd, if_neg (by simp), if_neg (by rw [hf]; simp; omega)]; rfl
theorem read_all {D : Dk} (hd : D.down = false) {f : Int} (hf : isFile f = true) {n : Int} (hl : ((D.now f.toNat).length : Int) ≤ n) : D.read f 0 n = (D.now f.toNat, 0) := by
  rw [read_up hd hf (Int.le_refl 0) (by omega)]
  rw [Int.toNat_zero, List.drop_zero, List.take_of_length_le (by omega)]

/-- The file behind a write. -/
def putN (t : List UInt8) (a : Nat) (s : List UInt8) : List UInt8 := if s = [] then t else putL t a s
theorem wr_ok {D : Dk} {f a : Int} {s : List UInt8} (hf : isFile f = true) (ha : 0 ≤ a) (hs : a + s.length ≤ 16777216) :
    (D.wr f a s).1 = 0 ∧ ∀ g, (D.wr f a s).2.now g = if g = f.toNat then putN (D.now g) a.toNat s else D.now g := by
  unfold Dk.wr
  rw [if_neg (by rw [hf]; simp; omega), if_neg (by omega)]
  by_cases h : s = []
  · rw [if_pos h]
    refine ⟨rfl, fun g => ?_⟩
    simp [putN, h]
  · rw [if_neg h]
    refine ⟨rfl, fun g => ?_⟩
    show upd D.now f.toNat (putL (D.now f.toNat) a.toNat s) g = _
    by_cases hg : g = f.toNat
    · subst hg; rw [upd_same, if_pos rfl, putN, if_neg h]
    · rw [upd_other _ _ hg, if_neg hg]
theorem putL_mid (t : List UInt8) (a : Nat) (s : List UInt8) : ((putL t a s).drop a).take s.length = s := by
  have h1 : ((t ++ List.replicate (a + s.length - t.length) 0).take a).length = a := by simp; omega
  unfold putL
  simp only
  rw [List.append_assoc, List.drop_append, h1, List.drop_eq_nil_of_le (by omega), List.nil_append, Nat.sub_self, List.drop_zero, List.take_left']
  rfl
theorem putN_mid (t : List UInt8) (a : Nat) (s : List UInt8) : ((putN t a s).drop a).take s.length = s := by
  unfold putN
  split
  · rename_i h; subst h; simp
  · exact putL_mid t a s
theorem settle_now (D : Dk) (f : Nat) : (D.settle f).now = D.now := (hardens_keeps (keepsF f D.pend) D).1
theorem settle_down (D : Dk) (f : Nat) : (D.settle f).down = D.down := (hardens_keeps (keepsF f D.pend) D).2.2.1
theorem settle_calls (D : Dk) (f : Nat) : (D.settle f).calls = D.calls := (hardens_keeps (keepsF f D.pend) D).2.2.2.2.1
theorem settle_lost (D : Dk) (f : Nat) : (D.settle f).lost = D.lost := (hardens_keeps (keepsF f D.pend) D).2.2.2.1
theorem settle_dur {D : Dk} (h : Good D) (f : Nat) : (D.settle f).dur f = D.now f := h.settled f
theorem settle_dur_other (D : Dk) {f g : Nat} (hg : g ≠ f) : (D.settle f).dur g = D.dur g :=
  hardens_other _ _ _ fun p hp => by
    have : p.1 = f := by simpa [keepsF] using (List.mem_filter.1 hp).2
    omega
theorem trunc_facts {D : Dk} (h : Good D) (f : Int) (n : Nat) : (D.trunc f n).now f.toNat = (D.now f.toNat).take n ∧ (D.trunc f n).dur f.toNat = (D.now f.toNat).take n := by
  constructor
  · show upd (D.settle f.toNat).now f.toNat (((D.settle f.toNat).now f.toNat).take n) f.toNat = _
    rw [upd_same, settle_now]
  · show upd (D.settle f.toNat).dur f.toNat (((D.settle f.toNat).dur f.toNat).take n) f.toNat = _
    rw [upd_same, settle_dur h]
theorem truncate_up {D : Dk} (hc : D.calls = 0) (hd : D.down = false) {f n : Int} (hf : isFile f = true) (h0 : 0 ≤ n) (hn : n ≤ (D.now f.toNat).length) : D.truncate f n = (0, D.trunc f n.toNat) := by
  unfold Dk.truncate
  rw [hd, if_neg (by simp)]
  simp only [strike_none hc]
  rw [if_neg (by simp), if_neg]
  · rfl
  · rw [hf]
    simp only [Dk.size, hf, if_true]
    simp; omega
/-- What a crash leaves of the files. -/
theorem crashed {D : Dk} (hd : D.down = false) (ks : List Int) {f : Nat} (hf : f < 16) : (D.crash ks).now f = (hardens D (survive ks 0 D.pend)).dur f ∧ (D.crash ks).down = true := by
  unfold Dk.crash
  rw [hd, if_neg (by simp)]
  exact ⟨if_pos hf, rfl⟩
theorem survive_nil (ps : List (Nat × Nat)) : ∀ i, survive [] i ps = [] := by
  induction ps with
  | nil => intro i; rfl
  | cons p ps ih => intro i; simp [survive, ih, odd]
theorem survive_one (ps : List (Nat × Nat)) : ∀ i, survive [1] i ps = ps := by
  induction ps with
  | nil => intro i; rfl
  | cons p ps ih => intro i; simp [survive, ih, odd, Nat.mod_one]
theorem crash_none {D : Dk} (hd : D.down = false) {f : Nat} (hf : f < 16) : (D.crash []).now f = D.dur f := by
  rw [(crashed hd [] hf).1, survive_nil]; rfl
theorem crash_all {D : Dk} (h : Good D) (hd : D.down = false) {f : Nat} (hf : f < 16) : (D.crash [1]).now f = D.now f := by
  rw [(crashed hd [1] hf).1, survive_one]
  apply eq_of_getD
  · have h1 := hardens_len_le D.pend D f (fun p hp => h.inn p hp)
    have h2 := hardens_len_mono D.pend D f
    have h3 := h.len f
    rcases Nat.lt_or_ge (D.dur f).length (D.now f).length with h4 | h4
    · have h5 := hardens_len_ge D.pend D (f, ((D.now f).length - 1) / 64) (h.last f h4)
      simp only at h5
      omega
    · omega
  · intro i
    rw [hardens_at]
    by_cases hi : (f, i / 64) ∈ D.pend
    · by_cases hl : i < (D.now f).length
      · rw [if_pos ⟨hi, hl⟩]
      · rw [if_neg (fun h => hl h.2), getD_out (by have := h.len f; omega), getD_out (by omega)]
    · rw [if_neg (fun h2 => hi h2.1), h.same f i hi]
theorem crash_len {D : Dk} (h : Good D) (hd : D.down = false) (ks : List Int) {f : Nat} (hf : f < 16) : (D.dur f).length ≤ ((D.crash ks).now f).length ∧ ((D.crash ks).now f).length ≤ (D.now f).length := by
  rw [(crashed hd ks hf).1]
  have h1 := hardens_len_le (survive ks 0 D.pend) D f (fun p hp => h.inn p (survive_mem _ _ hp))
  have h2 := hardens_len_mono (survive ks 0 D.pend) D f
  have h3 := h.len f
  omega
/-- Each sector is wholly what the file had, or wholly what is durable. -/
theorem crash_sector {D : Dk} (h : Good D) (hd : D.down = false) (ks : List Int) {f : Nat} (hf : f < 16) (n : Nat) :
    (∀ i, 64 * n ≤ i → i < 64 * n + 64 → i < ((D.crash ks).now f).length → ((D.crash ks).now f).getD i 0 = (D.now f).getD i 0) ∨
    (∀ i, 64 * n ≤ i → i < 64 * n + 64 → i < ((D.crash ks).now f).length → ((D.crash ks).now f).getD i 0 = (D.dur f).getD i 0) := by
  have hl := (crash_len h hd ks hf).2
  rw [(crashed hd ks hf).1] at hl ⊢
  by_cases hm : (f, n) ∈ survive ks 0 D.pend
  · refine .inl fun i h1 h2 h3 => ?_
    rw [hardens_at, if_pos ⟨by rw [show i / 64 = n by omega]; exact hm, by omega⟩]
  · refine .inr fun i h1 h2 h3 => ?_
    rw [hardens_at, if_neg (fun q => hm (by rw [show n = i / 64 by omega]; exact q.1))]

/-! ### A file that was synced, and is not written -/
structure Still (D : Dk) (f : Nat) (t : List UInt8) : Prop where
  now : D.now f = t
  dur : D.dur f = t
  free : ∀ p ∈ D.pend, p.1 ≠ f
theorem still_crash {D : Dk} {f : Nat} {t : List UInt8} (h : Still D f t) (hf : f < 16) (ks : List Int) : Still (D.crash ks) f t := by
  cases hd : D.down with
  | true => unfold Dk.crash; rw [hd]; exact h
  | false =>
    have hd2 : (hardens D (survive ks 0 D.pend)).dur f = t := (hardens_other _ _ _ fun p hp => h.free p (survive_mem _ _ hp)).trans h.dur
    refine ⟨(crashed hd ks hf).1.trans hd2, ?_, ?_⟩
    · unfold Dk.crash; rw [hd]; exact hd2
    · unfold Dk.crash; rw [hd]; intro p hp; cases hp
theorem Still.of {D D' : Dk} {f : Nat} {t : List UInt8} (h : Still D f t) (h1 : D'.now = D.now) (h2 : D'.dur = D.dur) (h3 : D'.pend = D.pend) : Still D' f t := ⟨by rw [h1]; exact h.now, by rw [h2]; exact h.dur, by rw [h3]; exact h.free⟩
theorem still_strike {D : Dk} {f : Nat} {t : List UInt8} (h : Still D f t) (hf : f < 16) : Still D.strike.2 f t := by
  unfold Dk.strike; split
  · exact h
  · split
    · exact still_crash (h.of (D' := { D with calls := 0 }) rfl rfl rfl) hf _
    · exact h.of rfl rfl rfl
theorem still_settle {D : Dk} {f g : Nat} {t : List UInt8} (h : Still D f t) (hg : f ≠ g) : Still (D.settle g) f t :=
  ⟨by rw [settle_now]; exact h.now, by rw [settle_dur_other D hg]; exact h.dur, fun p hp => h.free p (List.mem_filter.1 (show p ∈ D.pend.filter (fun p => p.1 ≠ g) from hp)).1⟩
theorem still_wr {D : Dk} {f : Nat} {t : List UInt8} (h : Still D f t) {g a : Int} {s : List UInt8} (hg : g ≠ (f : Int)) : Still (D.wr g a s).2 f t := by
  unfold Dk.wr; split
  · exact h
  · rename_i h1
    split
    · exact h
    · split
      · exact h
      · have hi : isFile g = true := by
          cases hh : isFile g with
          | true => rfl
          | false => exact absurd (.inl hh) h1
        have h2 := isFile_true hi
        have hne : f ≠ g.toNat := by omega
        refine ⟨(upd_other _ _ hne).trans h.now, h.dur, fun p hp => ?_⟩
        rcases addSecs_mem _ (show p ∈ addSecs D.pend g.toNat (a.toNat / 64) _ from hp) with h3 | ⟨h3, _⟩
        · exact h.free p h3
        · omega
theorem still_write {D : Dk} {f : Nat} {t : List UInt8} (h : Still D f t) (hf : f < 16) {g a : Int} {s : List UInt8} (hg : g ≠ (f : Int)) : Still (D.write g a s).2 f t := by
  have hs := still_strike (still_wr (a := a) (s := s) h hg) hf
  unfold Dk.write; split
  · exact h
  · simp only; split <;> exact hs
theorem still_sync {D : Dk} {f : Nat} {t : List UInt8} (h : Still D f t) (hf : f < 16) {g : Int} (hg : g ≠ (f : Int)) : Still (D.sync g).2 f t := by
  have hs := still_strike h hf
  unfold Dk.sync; split
  · exact h
  · simp only; split
    · exact hs
    · split
      · exact hs
      · rename_i h1
        split
        · exact hs.of rfl rfl rfl
        · have h2 := isFile_true (f := g) (by simpa using h1)
          exact still_settle hs (by omega)
theorem still_truncate {D : Dk} {f : Nat} {t : List UInt8} (h : Still D f t) (hf : f < 16) {g n : Int} (hg : g ≠ (f : Int)) : Still (D.truncate g n).2 f t := by
  have hs := still_strike h hf
  unfold Dk.truncate; split
  · exact h
  · simp only; split
    · exact hs
    · split
      · exact hs
      · rename_i h1
        have hi : isFile g = true := by
          cases hh : isFile g with
          | true => rfl
          | false => exact absurd (.inl hh) h1
        have h2 := isFile_true hi
        have hne : f ≠ g.toNat := by omega
        have hq := still_settle (g := g.toNat) hs hne
        exact ⟨(upd_other _ _ hne).trans hq.now, (upd_other _ _ hne).trans hq.dur, hq.free⟩
theorem still_act {D : Dk} {f : Nat} {t : List UInt8} (h : Still D f t) (hf : f < 16) {x : Act1} (hx : (x.K % 8 < 4 ∧ x.F ≠ (f : Int)) ∨ x.K % 8 = 4) : Still (Dk.act D x).2 f t := by
  unfold Dk.act
  split
  · exact still_sync h hf (by omega)
  · split
    · exact still_truncate h hf (by omega)
    · split
      · exact h.of rfl rfl rfl
      · split
        · omega
        · split
          · omega
          · split
            · omega
            · exact still_write h hf (by omega)
/-- What a Sync that succeeds leaves. -/
theorem sync_ok {D : Dk} (h : Good D) {f : Int} (he : (D.sync f).1 = 0) : isFile f = true ∧ (D.sync f).2.down = false ∧ D.down = false ∧ Still (D.sync f).2 f.toNat (D.now f.toNat) := by
  unfold Dk.sync at he ⊢
  cases hd : D.down with
  | true => rw [hd] at he; exact absurd he (show ¬ ((8 : Int) = 0) by decide)
  | false =>
    rw [hd] at he
    rw [if_neg (by simp)] at he ⊢
    simp only at he ⊢
    cases hs : D.strike.1 with
    | true => rw [hs] at he; exact absurd he (show ¬ ((8 : Int) = 0) by decide)
    | false =>
      rw [hs] at he
      rw [if_neg (by simp)] at he ⊢
      cases hf : isFile f with
      | false => rw [hf] at he; exact absurd he (show ¬ ((1 : Int) = 0) by decide)
      | true =>
        rw [hf] at he
        rw [if_neg (by simp)] at he ⊢
        have hns : D.strike.2.now = D.now ∧ D.strike.2.down = false := by
          unfold Dk.strike at hs ⊢
          split
          · exact ⟨rfl, hd⟩
          · split
            · rename_i h1 h2; rw [if_neg h1, if_pos h2] at hs; cases hs
            · exact ⟨rfl, hd⟩
        by_cases hl : 0 < D.strike.2.lost
        · rw [if_pos hl] at he; exact absurd he (show ¬ ((9 : Int) = 0) by decide)
        · rw [if_neg hl]
          refine ⟨rfl, ?_, by simp, ?_⟩
          · show (D.strike.2.settle f.toNat).down = false
            rw [settle_down]; exact hns.2
          · show Still (D.strike.2.settle f.toNat) f.toNat _
            refine ⟨by rw [settle_now, hns.1], by rw [settle_dur (good_strike h), hns.1], fun p hp => ?_⟩
            have := (List.mem_filter.1 (show p ∈ D.strike.2.pend.filter (fun p => p.1 ≠ f.toNat) from hp)).2
            simpa using this
theorem still_start {D : Dk} {f : Nat} {t : List UInt8} (h : Still D f t) : Still D.start f t := h.of rfl rfl rfl
end Go.Proofs.YtjbcgahdiolhhaaGreatDoor.D2
