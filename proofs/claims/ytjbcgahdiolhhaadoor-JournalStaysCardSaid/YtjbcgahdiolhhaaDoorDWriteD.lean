/- write: bytes are put into a file, and its sectors become pending. -/
import Derived.Test.YtjbcgahdiolhhaaDoorDStrike
import Derived.Test.YtjbcgahdiolhhaaDoorDSettleW
import Derived.Lib.Strings
namespace Go.Proofs.YtjbcgahdiolhhaaDoor.D2
open Go.RowKit Go.Maps Go.ChangeMaps Go.MapKept
open Dp
attribute [local go_sem ↓] Go.wp_at_zero Go.wp_at_succ

theorem MapIs.store' {P : Program} {w : World} {k : TypeId} {b c : Nat} {m : Lit → Option Value} {t e : TypeId} (h : MapIs P w k b c m) (K : Keyed P k) (ht : P.underlying t = some (.map k e)) (hn : c < maxLen) {key val : Value} {kl : Lit} (hkey : keyOf P k key = some kl) (hnew : m kl = none) :
    ∃ w', (Instr.mapUpdate t (.map (some b)) key val).run P w = .ok () w' ∧ MapIs P w' k b (c + 1) (fun x => open Classical in if x = kl then some val else m x) ∧ w.grownBy w' (some b) := h.store K ht hn hkey hnew

theorem markMap_snoc {ps : List (Nat × Nat)} {p : Nat × Nat} (kl : Lit) : markMap (ps ++ [p]) kl = (open Classical in if kl = secLit p then some (.bool true) else markMap ps kl) := by
  unfold markMap
  by_cases h : kl = secLit p
  · subst h
    rw [if_pos rfl, if_pos ⟨p, by simp, rfl⟩]
  · rw [if_neg h]
    congr 1
    refine propext ⟨fun ⟨q, hq, e⟩ => ⟨q, ?_, e⟩, fun ⟨q, hq, e⟩ => ⟨q, by simp [hq], e⟩⟩
    rcases List.mem_append.1 hq with hq | hq
    · exact hq
    · simp at hq; subst hq; exact absurd e.symm h
theorem markMap_in {ps : List (Nat × Nat)} {p : Nat × Nat} (hb : ∀ q ∈ ps, q.1 < 16 ∧ q.2 < 262144) (h1 : p.1 < 16) (h2 : p.2 < 262144) : markMap ps (secLit p) = if p ∈ ps then some (.bool true) else none := by
  unfold markMap
  by_cases h : p ∈ ps
  · rw [if_pos h, if_pos ⟨p, h, rfl⟩]
  · rw [if_neg h, if_neg]
    rintro ⟨q, hq, e⟩
    have := hb q hq
    exact h (by rw [← secLit_inj (by omega) (by omega) (by omega) (by omega) e]; exact hq)

theorem alloc_new_cell (w : World) (cs : Array Value) (e : TypeId) (i : Nat) : (w.alloc (.cells cs e)).cell? ⟨w.heap.size, i, none⟩ = cs[i]? := by
  rw [Lib.cell_of_heap (show (w.alloc (.cells cs e)).heap[w.heap.size]? = some (.cells cs e) from (MapKept.heap_alloc w _).1)]
theorem secs_snoc (f n : Nat) : ∀ k, secs f n (k + 1) = secs f n k ++ [(f, n + k)] := by
  intro k
  induction k generalizing n with
  | zero => simp [secs]
  | succ k ih => rw [secs, ih (n + 1)]; simp [secs, Nat.add_assoc, Nat.add_comm 1]
theorem addSecs_snoc (ps : List (Nat × Nat)) (f n k : Nat) : addSecs ps f n (k + 1) = addSec (addSecs ps f n k) (f, n + k) := by
  unfold addSecs; rw [secs_snoc, List.foldl_append]; rfl
theorem addSec_mem {ps : List (Nat × Nat)} {p q : Nat × Nat} : q ∈ addSec ps p ↔ q ∈ ps ∨ q = p := by
  unfold addSec; split
  · rename_i h; exact ⟨.inl, fun h' => h'.elim id (fun e => e ▸ h)⟩
  · simp
theorem addSec_nodup {ps : List (Nat × Nat)} {p : Nat × Nat} (h : ps.Nodup) : (addSec ps p).Nodup := by
  unfold addSec; split
  · exact h
  · rename_i hp
    exact List.nodup_append.2 ⟨h, by simp, fun a ha c hc => by simp at hc; subst hc; exact fun e => hp (e ▸ ha)⟩
theorem addSecs_ok {ps : List (Nat × Nat)} {f n : Nat} (h : ps.Nodup) (hf : f < 16) (hb : ∀ q ∈ ps, q.1 < 16 ∧ q.2 < 262144) : ∀ k, n + k ≤ 262144 → (addSecs ps f n k).Nodup ∧ ∀ q ∈ addSecs ps f n k, q.1 < 16 ∧ q.2 < 262144 := by
  intro k
  induction k with
  | zero => intro _; exact ⟨h, hb⟩
  | succ k ih =>
    intro hk
    obtain ⟨h1, h2⟩ := ih (by omega)
    rw [addSecs_snoc]
    refine ⟨addSec_nodup h1, fun q hq => ?_⟩
    rcases addSec_mem.1 hq with hq | rfl
    · exact h2 q hq
    · exact ⟨hf, by show n + k < 262144; omega⟩

/-- The part of a write behind the putting. -/
def WriteInv (lab : Nat → Nat) (id b : Nat) (D : Dk) (f n0 : Nat) (w : World) (k : Nat) (wr : World) : Prop :=
  ∃ lab' L', DiskIn wr lab' id b { D with pend := addSecs D.pend f n0 k } (addSecs D.pend f n0 k) L' ∧ Chg id lab lab' w wr

section
variable {w : World} {lab : Nat → Nat} {id b : Nat} {D : Dk} {L : Loc}
theorem write_arg (h : DiskIn w lab id b D D.pend L) (f a : Int) (s : List UInt8) (hf : I64 f) (ha : I64 a) (hb : isFile f = false ∨ a < 0) :
    Calls Tryd.prog 42 #[.pointer (some ⟨b, 0, none⟩), .int .i64 f, .int .i64 a, .string (bs s)] w fun e w' => e = .returned (.int .i64 1) ∧ w = w' := by
  have c0 := h.c 0
  simp only [List.getElem?_toArray, List.getElem?_cons_zero] at c0
  have hl := h.lookF hf
  have a1 := ha.1
  have a2 := ha.2
  cases hi : isFile f with
  | false =>
    rw [if_neg (isFile_false hi)] at hl
    clear h hi hb
    go_enter Tryd.func42, Tryd.ntmps42
    go_wp2
    go_ret
    exact ⟨rfl, rfl⟩
  | true =>
    rw [if_pos (isFile_true hi)] at hl
    have h0 : a < 0 := by rcases hb with h1 | h1 <;> simp_all
    clear h hi hb
    go_enter Tryd.func42, Tryd.ntmps42
    go_wp2
    go_ret
    exact ⟨rfl, rfl⟩

set_option maxRecDepth 100000 in
theorem write_none (h : DiskIn w lab id b D D.pend L) (f a : Int) (s : List UInt8) (hf : I64 f) (ha : I64 a) (hb : isFile f = true) (h0 : 0 ≤ a) (hs : s.length ≤ 140737488355327) (hc : 16777216 - (s.length : Int) < a ∨ s = []) :
    Calls Tryd.prog 42 #[.pointer (some ⟨b, 0, none⟩), .int .i64 f, .int .i64 a, .string (bs s)] w fun e w' => e = .returned (.int .i64 (if 16777216 - (s.length : Int) < a then 6 else 0)) ∧ w = w' := by
  have c0 := h.c 0
  simp only [List.getElem?_toArray, List.getElem?_cons_zero] at c0
  have hl := h.lookF hf
  have a2 := ha.2
  rw [if_pos (isFile_true hb)] at hl
  have hz := bs_size s
  have hz1 : ((bs s).size : Int) = (s.length : Int) := by rw [hz]
  have hz2 : (bs s).size ≤ 140737488355327 := by omega
  by_cases hcase : 16777216 - (s.length : Int) < a
  · rw [if_pos hcase]
    have hcase2 : 16777216 - ((bs s).size : Int) < a := by omega
    clear h hb hz hcase hc hz1
    go_enter Tryd.func42, Tryd.ntmps42
    go_wp2
    go_ret
    exact ⟨rfl, rfl⟩
  · rw [if_neg hcase]
    obtain rfl : s = [] := by rcases hc with h1 | h1; exact absurd h1 hcase; exact h1
    have hcase2 : ¬ (16777216 : Int) < a := by simpa using hcase
    have hb0 : bs [] = ⟨#[]⟩ := rfl
    rw [hb0]
    clear h hb hz hcase hc hz1 hz2 hb0
    go_enter Tryd.func42, Tryd.ntmps42
    go_wp2
    go_ret
    exact ⟨rfl, rfl⟩

/-- The bytes of a string, in a new block. -/
theorem conv_bytes (w : World) (s : List UInt8) : ∃ wc cap, (convert 9 58 (.string (bs s))).run Tryd.prog w = .ok (.slice (some ⟨w.heap.size, 0, none⟩) s.length cap) wc ∧ Below w.heap.size w wc ∧ ∀ j u, (byteVs s)[j]? = some u → wc.cell? ((⟨w.heap.size, 0, none⟩ : Addr).add j) = some u := by
  have hr := run_bytes_of_string w 9 58 5 (bs s) Tryd.underlying9 Tryd.underlying58 Tryd.underlying5
  rw [bs_size] at hr
  refine ⟨_, _, hr, ((Below.refl _ _).drew).alloc (Nat.le_refl _) _, ?_⟩
  intro j u hj
  rw [Lib.add_plain, Nat.zero_add]
  have hh : ∀ (C : Array Value) (z : Nat × Nat), ((w.drew.alloc (.cells C 5 z)).heap[w.heap.size]?) = some (.cells C 5 z) := fun C z => by
    show (w.heap.push (.cells C 5 z))[w.heap.size]? = _
    simp
  rw [Lib.cell_of_heap (hh _ _)]
  obtain ⟨hjl, rfl⟩ := List.getElem?_eq_some_iff.1 hj
  have e1 : (bytesRow (bs s) (grownCap w s.length 0 5)).toList = byteVs s ++ List.replicate (grownCap w s.length 0 5 - (bs s).size) (.int .u8 0) := by simp [bytesRow, bs, byteVs]
  rw [← Array.getElem?_toList, e1, List.getElem?_append_left hjl, List.getElem?_eq_getElem hjl]

def K0 (a n : Nat) : Nat := (a + n - 1) / 64 + 1 - a / 64

set_option maxHeartbeats 4000000 in
set_option maxRecDepth 100000 in
theorem write_put (h : DiskIn w lab id b D D.pend L) (f a : Nat) (s : List UInt8) (hf : f < 16) (ha : a + s.length ≤ 16777216) (hs : 0 < s.length) :
    Calls Tryd.prog 42 #[.pointer (some ⟨b, 0, none⟩), .int .i64 (f : Int), .int .i64 (a : Int), .string (bs s)] w (ResPost lab id b (.int .i64 0) (D.put f a s) w) := by
  have c0 := h.c 0
  simp only [List.getElem?_toArray, List.getElem?_cons_zero] at c0
  have hl := h.lookN hf
  have hcase2 : ¬ 16777216 - ((bs s).size : Int) < (a : Int) := by rw [bs_size]; omega
  have hz2 : (bs s).size ≤ 16777216 := by rw [bs_size]; omega
  have hne : (bs s).toList.isEmpty = false := by
    have e : (bs s).toList = s := Lib.toList_data _
    rw [e]; cases s with
    | nil => simp at hs
    | cons x s => rfl
  obtain ⟨wc, cap, hconv, hbc, hsrc⟩ := conv_bytes w s
  have c1 := h.fc hf 0
  simp only [List.getElem?_toArray, List.getElem?_cons_zero] at c1
  have H := Lib.hid h
  have HB := Lib.hid hbc
  have HSRC := Lib.hid hsrc
  clear h hbc hsrc
  go_enter Tryd.func42, Tryd.ntmps42
  have hfn := H.out.now f hf
  have hfw := H.out.ok.now f
  have hnb : (L.nv f).ownBlock ≠ some w.heap.size := fun e => by have := (hfn.lt _ e).2; omega
  have hfc : wc.ownsRow 0 5 1 (L.nv f) (D.now f).length (byteVs (D.now f)) := ownsRow_block hfn fun j hj => HB.out.block j (hfn.lt j hj).2
  have h1c := (H.out.fresh HB.out).fc hf 0
  simp only [List.getElem?_toArray, List.getElem?_cons_zero] at h1c
  obtain ⟨na, nc, hnv⟩ := own_form hfn
  rw [hnv] at c1 h1c hfc hnb
  have HF := Lib.hid hfc
  have HNB := Lib.hid hnb
  clear hfn hfc hnb
  have HNV := Lib.hid hnv
  clear hnv
  go_wp2_with (go_at_call 52; ((with_reducible refine (put_any (.slice na (D.now f).length nc) (D.now f) a s w.heap.size 0 cap wc hs HF.out hfw ha HNB.out HSRC.out).mono ?_); rintro e w2 ⟨v', rfl, o2, g2, l2⟩; refine Hid.out ?_))
  refine Lib.hid ?_
  obtain ⟨va, vc, rfl⟩ := own_form o2
  have g2w : w.grownBy w2 (L.nv f).ownBlock := by
    rw [HNV.out]
    exact ⟨g2.os.trans HB.out.os, g2.tape.trans HB.out.tape, g2.output.trans HB.out.output, Nat.le_trans HB.out.size g2.size, fun j hj hne2 => (g2.block j (Nat.lt_of_lt_of_le hj HB.out.size) hne2).trans (HB.out.block j hj)⟩
  have hset := H.out.setNow hf (r := putL (D.now f) a s) (by rw [putL_length]; omega) g2w o2 (by
    rw [HNV.out]
    rcases l2 with h1 | h1
    · exact .inl h1
    · exact .inr fun j hj => Nat.le_trans HB.out.size (h1 j hj)) (Hp.refl _)
  have hgn : (L.nv f).ownBlock ≠ some (L.g f) := fun e => by have h5 := H.out.ln f hf _ e; have h6 := H.out.lg f hf; omega
  have hgl := lt_heap (H.out.file f hf)
  have d0 := g2w.cell (a := ⟨L.g f, 0, none⟩) c1 (fun e => hgn e.symm)
  have f0 : w2.frozen? ⟨L.g f, 0, none⟩ = false := (World.frozen?_of_block (w := w) (g2w.block _ hgl (fun e => hgn e.symm))).trans (H.out.ffz hf 0)
  generalize hD' : ({ D with now := upd D.now f (putL (D.now f) a s) } : Dk) = D' at hset
  have HD' := Lib.hid (show D.put f a s = { D' with pend := addSecs D'.pend f (a / 64) (K0 a s.length) } by rw [← hD']; rfl)
  have hpn : D'.pend = D.pend := by rw [← hD']
  have hlb : (a + s.length - 1) / 64 < 262144 := by omega
  obtain ⟨n0, hn0⟩ : ∃ n, n = a / 64 := ⟨_, rfl⟩
  obtain ⟨n1, hn1⟩ : ∃ n, n = (a + s.length - 1) / 64 := ⟨_, rfl⟩
  have hK : n0 + K0 a s.length = n1 + 1 := by unfold K0; omega
  have hq0 : (a : Int).tdiv 64 = (n0 : Int) := by rw [hn0]; exact (Int.ofNat_tdiv a 64).symm
  have hq1 : ((a : Int) + ((bs s).size : Int) - 1).tdiv 64 = (n1 : Int) := by
    rw [hn1, bs_size, show (a : Int) + (s.length : Int) - 1 = ((a + s.length - 1 : Nat) : Int) by omega]; exact (Int.ofNat_tdiv _ 64).symm
  rw [← hn1] at hlb
  rw [← hn0] at HD'
  obtain ⟨hset1, kset⟩ := hset
  rw [← hpn] at hset1
  have HST := Lib.hid (show WriteInv lab id b D' f n0 w 0 _ from ⟨_, _, hset1, kset⟩)
  have HPO := Lib.hid (show D'.pend.Nodup ∧ ∀ q ∈ D'.pend, q.1 < 16 ∧ q.2 < 262144 by rw [hpn]; exact ⟨H.out.ok.pend, H.out.ok.few⟩)
  have g4 : (n0 : Int) ≤ 262144 := by omega
  have g5 : (n1 : Int) ≤ 262144 := by omega
  clear hset1 kset g2w g2 l2 o2 HF HNB HSRC h1c hgn hgl hn0 hn1 hconv hl hD' hpn c0
  generalize K0 a s.length = K at hK HD'
  go_wp2
  generalize w2.setCell ⟨L.g f, 0, none⟩ (.slice va (putL (D.now f) a s).length vc) = w3 at HST ⊢
  clear d0 f0
  go_loopw [10] (fun n wr => ∃ j : Nat, n0 ≤ j ∧ j ≤ n1 + 1 ∧ n = .int .i64 (j : Int) ∧ WriteInv lab id b D' f n0 w (j - n0) wr) (fun n _ => n1 + 1 - (intOf n).toNat)
  case atStart => exact ⟨n0, Nat.le_refl _, by omega, rfl, by rw [Nat.sub_self]; exact HST.out⟩
  case round =>
    obtain ⟨j, hj0, hjl, rfl, hinv⟩ := hrel
    have HINV := Lib.hid hinv
    clear hinv
    by_cases hlt : j ≤ n1
    · obtain ⟨lab1, L1, h1, k1⟩ := HINV.out
      have hsn : addSecs D'.pend f n0 (j + 1 - n0) = addSec (addSecs D'.pend f n0 (j - n0)) (f, j) := by
        rw [show j + 1 - n0 = (j - n0) + 1 by omega, addSecs_snoc, show n0 + (j - n0) = j by omega]
      have HSN := Lib.hid hsn
      have hbA := below_alloc wr (.cells #[.int .i64 (f : Int), .int .i64 (j : Int)] 78)
      have h2 := h1.fresh hbA
      have k2 := chg_below k1 h1 hbA
      have a0 : (wr.alloc (.cells #[.int .i64 (f : Int), .int .i64 (j : Int)] 78)).cell? ⟨wr.heap.size, 0, none⟩ = some (.int .i64 (f : Int)) := by simp
      have a1 : (wr.alloc (.cells #[.int .i64 (f : Int), .int .i64 (j : Int)] 78)).cell? ⟨wr.heap.size, 1, none⟩ = some (.int .i64 (j : Int)) := by simp
      have hrl : wr.heap.size < (wr.alloc (.cells #[.int .i64 (f : Int), .int .i64 (j : Int)] 78)).heap.size := by simp
      have hlr := h1.lo wr.heap.size (Nat.le_refl _)
      have hle : (j : Int) ≤ (n1 : Int) := by omega
      clear hsn hbA h1 k1
      generalize hps : addSecs D'.pend f n0 (j - n0) = ps at h2 HSN
      clear hps
      have hlen : ps.length ≤ 4194304 := pend_len h2.ok
      have hfew := h2.ok.few
      simp only at hfew hlen
      have hkey : keyOf Tryd.prog 78 (secV (f, j)) = some (secLit (f, j)) := keyS (p := (f, j)) (by show f < _; omega) (by show j < _; omega)
      have hmi := markMap_in (p := (f, j)) hfew hf (by show j < _; omega)
      have hlook := h2.drew.marks.look lawS Tryd.underlying61 (zeroB _) hkey
      rw [hmi] at hlook
      have c2 := h2.c 2
      simp only [List.getElem?_toArray, List.getElem?_cons_zero, List.getElem?_cons_succ] at c2
      by_cases hin : (f, j) ∈ ps
      · rw [if_pos hin] at hlook
        have hlook : (Instr.lookup 61 (.map (some L1.mm)) (.agg #[.int .i64 (f : Int), .int .i64 (j : Int)]) false).run Tryd.prog (wr.alloc (.cells #[.int .i64 (f : Int), .int .i64 (j : Int)] 78)).drew = .ok (.bool true) (wr.alloc (.cells #[.int .i64 (f : Int), .int .i64 (j : Int)] 78)).drew := hlook
        have HIN5 := Lib.hid (show WriteInv lab id b D' f n0 w (j + 1 - n0) (wr.alloc (.cells #[.int .i64 (f : Int), .int .i64 (j : Int)] 78)).drew from
          ⟨lab1, L1, by rw [HSN.out, addSec, if_pos hin]; exact h2.drew, chg_below k2 h2 (Below.refl _ _).drew⟩)
        clear hmi hfew hin h2 k2 hkey hlr hrl
        go_wp2
        go_region_with (fail)
        all_goals
          go_wp2
          go_roundw
          case rel => exact ⟨j + 1, by omega, by omega, by go_num, HIN5.out⟩
          case measure => simp [intOf]; omega
      · rw [if_neg hin] at hlook hmi
        have hlook : (Instr.lookup 61 (.map (some L1.mm)) (.agg #[.int .i64 (f : Int), .int .i64 (j : Int)]) false).run Tryd.prog (wr.alloc (.cells #[.int .i64 (f : Int), .int .i64 (j : Int)] 78)).drew = .ok (.bool false) (wr.alloc (.cells #[.int .i64 (f : Int), .int .i64 (j : Int)] 78)).drew := hlook
        obtain ⟨w4, hup, m4, g4'⟩ := h2.drew.drew.marks.store' (val := .bool true) lawS Tryd.underlying61 (by unfold maxLen; omega) hkey hmi
        have hup : (Instr.mapUpdate 61 (.map (some L1.mm)) (.agg #[.int .i64 (f : Int), .int .i64 (j : Int)]) (.bool true)).run Tryd.prog (wr.alloc (.cells #[.int .i64 (f : Int), .int .i64 (j : Int)] 78)).drew.drew = .ok () w4 := hup
        obtain ⟨h4, k4⟩ := h2.drew.drew.setMarks (mk' := ps ++ [(f, j)]) g4' (Hp.refl _) (m4.congr markMap_snoc (by simp))
        have hmmr : (some wr.heap.size : Option Nat) ≠ some L1.mm := fun e => by
          have h9 := h2.lm
          simp only [Option.some.injEq] at e
          rw [← e, hlr] at h9
          omega
        have b0 := g4'.cell (a := ⟨wr.heap.size, 0, none⟩) a0 hmmr
        have b1 := g4'.cell (a := ⟨wr.heap.size, 1, none⟩) a1 hmmr
        have c1' := h4.c 1
        have f1' := h4.fz 1
        simp only [List.getElem?_toArray, List.getElem?_cons_zero, List.getElem?_cons_succ] at c1'
        obtain ⟨pa, pc, hpv⟩ := own_form h4.pend
        simp only at hpv
        rw [hpv] at c1'
        have hop := h4.drew.pend
        simp only at hop
        rw [hpv] at hop
        obtain ⟨i0, hi, hz0, hz1, hz2'⟩ := info_parts sec_info
        obtain ⟨v', w5, hap, ho5, hg5, _, hl5⟩ := run_append_own_at (P := Tryd.prog) (w4.drew.alloc (.cells #[.int .i64 (f : Int), .int .i64 (j : Int)] 78)) 0 62 62 78 i0 (.agg #[.int .i64 0, .int .i64 0]) 2 16 Tryd.underlying62 hi hz0 hz1 hz2' rfl (by decide) _ _ _ (hop.alloc _) ⟨w4.heap.size, 0, none⟩ 1 1 [.int .i64 (f : Int), .int .i64 (j : Int)] rfl (by
          intro i y hy
          rw [Lib.add_plain]
          match i, hy with
          | 0, hy => simp at hy; subst hy; exact alloc_new_cell w4.drew _ _ 0
          | 1, hy => simp at hy; subst hy; exact alloc_new_cell w4.drew _ _ 1) (by intro y hy; simp at hy; rcases hy with rfl | rfl <;> rfl) (by unfold maxLen; omega) (by omega) (Nat.zero_le _)
        obtain ⟨va', vc', rfl⟩ := own_form ho5
        have g5' : w4.grownBy w5 L1.pv.ownBlock := by
          rw [hpv]
          have q := below_alloc w4.drew (.cells #[.int .i64 (f : Int), .int .i64 (j : Int)] 78)
          exact ⟨hg5.os.trans q.os, hg5.tape.trans q.tape, hg5.output.trans q.output, Nat.le_trans q.size hg5.size, fun i hi hne2 => (hg5.block i (Nat.lt_of_lt_of_le hi q.size) hne2).trans (q.block i hi)⟩
        have hgn : L1.pv.ownBlock ≠ some b := fun e => by have h5 := h4.lp _ e; have h6 := h4.lb; omega
        have d1 := g5'.cell (a := ⟨b, 1, none⟩) c1' (fun e => hgn e.symm)
        have e1 : w5.frozen? ⟨b, 1, none⟩ = false := (World.frozen?_of_block (w := w4) (g5'.block _ h4.blt (fun e => hgn e.symm))).trans f1'
        have hadd : addSec ps (f, j) = ps ++ [(f, j)] := by rw [addSec, if_neg hin]
        have hokp := addSecs_ok (ps := D'.pend) (f := f) (n := n0) HPO.out.1 hf HPO.out.2 (j + 1 - n0) (by omega)
        rw [HSN.out, hadd] at hokp
        have hset5 := h4.setPend (ps := ps ++ [(f, j)]) (v' := .slice va' (ps.length + 1) vc') hokp.1 hokp.2 g5' (by rw [secVs_snoc, List.length_append]; exact ho5) (by
          rw [hpv]
          rcases hl5 with h9 | h9
          · exact .inl h9
          · exact .inr fun i hi => by rw [h9] at hi; simp at hi; omega) (Hp.refl _)
        have HIN5 := Lib.hid (show WriteInv lab id b D' f n0 w (j + 1 - n0) (w5.setCell ⟨b, 1, none⟩ (.slice va' (ps.length + 1) vc')) from
          ⟨_, _, by rw [HSN.out, hadd]; exact hset5.1, ((chg_below k2 h2 ((Below.refl _ _).drew).drew).trans k4).trans hset5.2⟩)
        have c1'' := alloc_cell (w := w4) c1' (.cells #[.int .i64 (f : Int), .int .i64 (j : Int)] 78)
        have HAP := Lib.hid hap
        clear hmi hfew hin h2 k2 hkey hlr hrl hap ho5 hg5 hl5 g5' hgn hadd hokp hset5 hop hpv h4 k4 m4 g4' hmmr hi hz0 hz1 hz2'
        go_wp2
        go_region_with (fail)
        all_goals
          go_wp2
          go_region_with (fail)
        all_goals
          go_wp2
          go_region_law (first | (refine step_append_run (by rfl) _ _ _ _ (by rfl) _ _ (by rfl) (by rfl) _ _ HAP.out ?_))
        all_goals
          go_wp2
          go_roundw
          case rel => exact ⟨j + 1, by omega, by omega, by go_num, HIN5.out⟩
          case measure => simp [intOf]; omega
    · have hjj : j - n0 = K := by omega
      have hinv := HINV.out
      rw [hjj] at hinv
      have HIV := Lib.hid hinv
      clear hinv hjj
      go_wp2
      go_ret
      obtain ⟨lab1, L1, h1, k1⟩ := HIV.out
      exact ⟨rfl, lab1, L1, by rw [HD'.out]; exact h1, k1⟩
end
end Go.Proofs.YtjbcgahdiolhhaaDoor.D2
