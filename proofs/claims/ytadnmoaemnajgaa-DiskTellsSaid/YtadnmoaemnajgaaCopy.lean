/- Copy. -/
import Derived.Test.YtadnmoaemnajgaaCopyE
import Derived.Deep.RegionHeld3
namespace Go.Proofs.Ytadnmoaemnajgaa
open Go.RowKit Go.Maps Go.ChangeMaps Go.MapKept
open Dp
attribute [local go_sem ↓] Go.wp_at_zero Go.wp_at_succ

section
variable {w : World} {lab : Nat → Nat} {id b : Nat} {D : Dk} {L : Loc}

theorem below_cell {w w' : World} {a : Addr} {v : Value} (h : w.cell? a = some v) (hb : Below w.heap.size w w') : w'.cell? a = some v := by
  rw [hb.cell (Lib.lt_of_cell h)]; exact h
theorem below_drew (w : World) : Below w.heap.size w w.drew := (Below.refl _ _).drew
theorem src_below {w w' : World} {base : Nat} {e : TypeId} {size n : Nat} {v : Value} {xs : List Value} (h : w.ownsRow base e size v n xs) (hb : Below w.heap.size w w') (h1 : ∀ u ∈ xs, u.oneCell' = true) : SrcIs w' size v n xs :=
  SrcIs.of_own (ownsRow_block h fun k hk => hb.block k (h.lt k hk).2) h1

theorem three_below {w w' : World} {a b c : Addr} {u v x : Value} (h : w.cell? a = some u ∧ w.cell? b = some v ∧ w.cell? c = some x) (hb : Below w.heap.size w w') : w'.cell? a = some u ∧ w'.cell? b = some v ∧ w'.cell? c = some x :=
  ⟨below_cell h.1 hb, below_cell h.2.1 hb, below_cell h.2.2 hb⟩
theorem undrew {w w' : World} (h : Below w.drew.heap.size w.drew w') : Below w.heap.size w w' := ⟨h.os, h.tape, h.output, h.size, h.block⟩
theorem copy_three {w1 w5 : World} {B g : Nat} {u v x : Value} (h : w1.cell? ⟨B, 0, none⟩ = some u ∧ w1.cell? ⟨g, 0, none⟩ = some v ∧ w1.cell? ⟨g, 1, none⟩ = some x) (h5 : ∀ y, y < w1.heap.size → y ≠ B + 1 → w5.heap[y]? = w1.heap[y]?) (_ : B ≤ w1.heap.size) (hg : g < B) :
    w5.cell? ⟨B, 0, none⟩ = some u ∧ w5.cell? ⟨g, 0, none⟩ = some v ∧ w5.cell? ⟨g, 1, none⟩ = some x := by
  have q := fun (y : Nat) (hy : y < w1.heap.size) (hne : y ≠ B + 1) (i : Nat) => World.cell?_of_block (w := w1) (w' := w5) (a := ⟨y, i, none⟩) (h5 y hy hne)
  refine ⟨?_, ?_, ?_⟩
  · rw [q B (Lib.lt_of_cell h.1) (by omega)]; exact h.1
  · rw [q g (Lib.lt_of_cell h.2.1) (by omega)]; exact h.2.1
  · rw [q g (Lib.lt_of_cell h.2.1) (by omega)]; exact h.2.2
def startLab (lab : Nat → Nat) (id' B x : Nat) : Nat := if x < B then lab x else if x = B then id' else if x = B + 1 then id' + 1 else 0
theorem copy_start {w w0 : World} {lab : Nat → Nat} {id b id' : Nat} {D : Dk} {L : Loc} (h : DiskIn w lab id b D D.pend L) (h64 : 64 ≤ id') (cs : Array Value) (hcs : cs = #[.map (some (w.heap.size + 1)), L.pv, .map (some L.mm), .bool D.down, .int .i64 (D.lost : Int), .int .i64 (D.calls : Int), L.kv])
    (g0 : ((w.alloc (.cells cs 56)).alloc (.map #[] 0)).grownBy w0 none) (hs0 : w0.heap.size = w.heap.size + 3)
    (rg : RangeIs Try.prog w0 3 L.fm (w.heap.size + 2) L.fc (fileMap L.g) (fun kl => (fileMap L.g kl).isSome) L.fc) : CopyInv w lab id' D L (fun kl => (fileMap L.g kl).isSome) L.fc w0 := by
  subst hcs
  have q1 := below_alloc w (.cells #[.map (some (w.heap.size + 1)), L.pv, .map (some L.mm), .bool D.down, .int .i64 (D.lost : Int), .int .i64 (D.calls : Int), L.kv] 56)
  have q2 := below_alloc (w.alloc (.cells #[.map (some (w.heap.size + 1)), L.pv, .map (some L.mm), .bool D.down, .int .i64 (D.lost : Int), .int .i64 (D.calls : Int), L.kv] 56)) (.map #[] 0)
  have hB : ∀ x, x < w.heap.size + 2 → w0.heap[x]? = ((w.alloc (.cells #[.map (some (w.heap.size + 1)), L.pv, .map (some L.mm), .bool D.down, .int .i64 (D.lost : Int), .int .i64 (D.calls : Int), L.kv] 56)).alloc (.map #[] 0)).heap[x]? := fun x hx => g0.block x (by simp; omega) (by simp)
  refine ⟨startLab lab id' w.heap.size, L.g, L.nv, L.dv, 0, ⟨fun x hx => ?_, fun x hx => ?_, fun x hx => ?_, ?_, by omega, ?_, ?_, ?_, ?_, ?_, by have := h.fcl; omega, rg, fun _ h => h, fun f hf hl => ?_⟩⟩
  · unfold startLab; (repeat' split) <;> omega
  · unfold startLab; rw [if_pos hx]
  · unfold startLab; (repeat' split) <;> omega
  · exact ⟨g0.os, g0.tape, g0.output, by omega, fun x hx => (hB x (by omega)).trans ((q2.block x (by simp; omega)).trans (q1.block x hx))⟩
  · unfold startLab; (repeat' split) <;> omega
  · unfold startLab; (repeat' split) <;> omega
  · unfold startLab; (repeat' split) <;> omega
  · rw [hB _ (by omega), q2.block _ (by simp)]
    exact (MapKept.heap_alloc w _).1
  · have hm := mapIs_made (P := Try.prog) (k := 3) (w.alloc (.cells #[.map (some (w.heap.size + 1)), L.pv, .map (some L.mm), .bool D.down, .int .i64 (D.lost : Int), .int .i64 (D.calls : Int), L.kv] 56))
    simp only [World.size_alloc] at hm
    refine (hm.block (hB _ (by omega))).congr (fun kl => ?_) rfl
    unfold copyMap
    split
    · rfl
    · rename_i hk
      simpa using hk
  · have : (fileMap L.g (.int .i64 (f : Int))).isSome = true := by
      show (if 0 ≤ (f : Int) ∧ (f : Int) < 16 then some (Value.pointer (some ⟨L.g (f : Int).toNat, 0, none⟩)) else none).isSome = true
      rw [if_pos (by omega)]; rfl
    rw [this] at hl; cases hl

set_option maxHeartbeats 4000000 in
set_option maxRecDepth 100000 in
theorem copy_any (h : DiskIn w lab id b D D.pend L) (id' : Nat) (h64 : 64 ≤ id') (hkl : D.keep.length ≤ 1000000) :
    Calls Try.prog 18 #[.pointer (some ⟨b, 0, none⟩)] w (NewPost lab id' D w) := by
  have hmm := @run_makeMap Try.prog
  have c0 := h.c 0
  have c1 := h.c 1
  have c2 := h.c 2
  have c3 := h.c 3
  have c4 := h.c 4
  have c5 := h.c 5
  have c6 := h.c 6
  simp only [List.getElem?_toArray, List.getElem?_cons_zero, List.getElem?_cons_succ] at c0 c1 c2 c3 c4 c5 c6
  obtain ⟨pa, pc, hpv⟩ := own_form h.pend
  obtain ⟨ka, kc, hkv⟩ := own_form h.keep
  rw [hpv] at c1
  rw [hkv] at c6
  have H := Lib.hid h
  have HP := Lib.hid hpv
  have HK := Lib.hid hkv
  clear h hpv hkv
  go_enter Try.func18, Try.ntmps18
  have hbS := (below_alloc w (.cells #[.map (some (w.heap.size + 1)), .slice pa D.pend.length pc, .map (some L.mm), .bool D.down, .int .i64 (D.lost : Int), .int .i64 (D.calls : Int), .slice ka D.keep.length kc] 56)).trans ((below_alloc (w.alloc (.cells #[.map (some (w.heap.size + 1)), .slice pa D.pend.length pc, .map (some L.mm), .bool D.down, .int .i64 (D.lost : Int), .int .i64 (D.calls : Int), .slice ka D.keep.length kc] 56)) (.map #[] 0)).mono (by simp))
  have c0S := below_cell c0 hbS
  have HF := Lib.hid (H.out.fresh hbS).files
  clear hbS
  go_wp2_with (first | (at_range; refine wpList_range_is rfl _ 52 rfl _ lawI Try.underlying52 rfl HF.out ?_; intro w0 hrg0 hg0 hs0) | go_in)
  try go_frame
  have hs0' : w0.heap.size = w.heap.size + 3 := by rw [hs0]; simp
  simp only [World.size_alloc] at hrg0
  have HST := Lib.hid (copy_start (id' := id') H.out h64 _ (by rw [HP.out, HK.out]) hg0 hs0' hrg0)
  clear hrg0 hg0 hs0 c0S
  simp only [World.size_alloc]
  rw [show w.heap.size + 1 + 1 = w.heap.size + 2 from rfl]
  go_loopw [4, 5] (fun _ _ wr => ∃ left cnt, CopyInv w lab id' D L left cnt wr) (fun _ _ wr => wr.rangeLeft L.fm (w.heap.size + 2))
  case atStart => exact ⟨_, _, HST.out⟩
  case round =>
    obtain ⟨left, cnt, hinv⟩ := hrel
    have HINV := Lib.hid hinv
    obtain ⟨lab2, g2, nv2, dv2, cc, hi⟩ := hinv
    have HI := Lib.hid hi
    clear hi
    go_wp2_with (first | (at_next; refine wpList_next_is rfl _ rfl lawI (Value.int .i64) (fun y : Nat => Value.pointer (some ⟨y, 0, none⟩)) (fun key kl hk => by obtain ⟨x, hx, _⟩ := Maps.keyOf_int_inv Try.underlying3 hk; exact ⟨x, hx⟩) (w.heap.size + 2) cnt left rfl HI.out.rng (fun kl v hv _ => by unfold fileMap at hv; split at hv <;> (try split at hv) <;> simp at hv; exact ⟨_, hv.symm⟩) HI.out.hlm ?_ ?_) | go_in)
    · intro _ hl0
      have HL0 := Lib.hid hl0
      clear hl0
      have bw := HI.out.below
      have d1 := below_cell c1 bw
      have hps := pend_len H.out.ok
      have HPS := Lib.hid (show SrcIs wr 2 (.slice pa D.pend.length pc) D.pend.length (secVs D.pend) from by have := src_below H.out.pend bw (oneCell_secs _); rwa [HP.out] at this)
      have hsz := HI.out.size
      have cB := (show wr.cell? ⟨w.heap.size, 1, none⟩ = some (.slice pa D.pend.length pc) from by rw [Lib.cell_of_heap HI.out.blk, HP.out]; rfl)
      have fB := (show wr.frozen? ⟨w.heap.size, 1, none⟩ = false from Lib.frozen_of_heap HI.out.blk 1)
      obtain ⟨es, clock, hes⟩ : ∃ es clock, w.heap[L.mm]? = some (.map es clock) := by
        obtain ⟨Dm, ⟨es, clock, e1, _⟩, _⟩ := H.out.marks
        exact ⟨es, clock, e1⟩
      have HES := Lib.hid hes
      have HBW := Lib.hid bw
      clear bw hes HINV
      go_wp2_with (go_at_call 41; refine (cloneS _ _ _ _ HPS.out (by omega)).mono ?_; rintro e wA ⟨vp, rfl, fA, bA⟩; refine Hid.out ?_)
      refine Lib.hid ?_
      have FA := Lib.hid fA
      have BA := Lib.hid bA
      have bwA : Below w.heap.size w wA := HBW.out.trans (bA.mono (by omega))
      have cA := below_cell cB bA
      have fA1 : wA.frozen? ⟨w.heap.size, 1, none⟩ = false := (bA.frozen (p := ⟨w.heap.size, 1, none⟩) (Lib.lt_of_cell cB)).trans fB
      have hqA := bA.size
      obtain ⟨pa', pc', rfl⟩ := own_form fA.1
      have d2 := below_cell c2 (bwA.setCell (p := ⟨w.heap.size, 1, none⟩) (Nat.le_refl _) (.slice pa' D.pend.length pc'))
      have HES2 := Lib.hid (show (wA.setCell ⟨w.heap.size, 1, none⟩ (.slice pa' D.pend.length pc')).heap[L.mm]? = some (.map es clock) from ((bwA.setCell (p := ⟨w.heap.size, 1, none⟩) (Nat.le_refl _) (.slice pa' D.pend.length pc')).block _ (lt_heap HES.out)).trans HES.out)
      have HBA := Lib.hid bwA
      have hblkA : wA.heap[w.heap.size]? = some (.cells #[.map (some (w.heap.size + 1)), L.pv, .map (some L.mm), .bool D.down, .int .i64 (D.lost : Int), .int .i64 (D.calls : Int), L.kv] 56 (0, 0)) := (bA.block _ (by omega)).trans HI.out.blk
      have hblkB := ((below_alloc (wA.setCell ⟨w.heap.size, 1, none⟩ (.slice pa' D.pend.length pc')) (.map es clock)).block w.heap.size (by rw [set_size]; omega)).trans (set_heap (o := 1) hblkA (.slice pa' D.pend.length pc'))
      have hblkB' := set_heap (o := 2) hblkB (.map (some wA.heap.size))
      have cB2 : ((wA.setCell ⟨w.heap.size, 1, none⟩ (.slice pa' D.pend.length pc')).alloc (.map es clock)).cell? ⟨w.heap.size, 2, none⟩ = some (.map (some L.mm)) := by rw [Lib.cell_of_heap hblkB]; rfl
      have fB2 : ((wA.setCell ⟨w.heap.size, 1, none⟩ (.slice pa' D.pend.length pc')).alloc (.map es clock)).frozen? ⟨w.heap.size, 2, none⟩ = false := Lib.frozen_of_heap hblkB 2
      have bwB : Below w.heap.size w (((wA.setCell ⟨w.heap.size, 1, none⟩ (.slice pa' D.pend.length pc')).alloc (.map es clock)).setCell ⟨w.heap.size, 2, none⟩ (.map (some wA.heap.size))) :=
        ((bwA.setCell (p := ⟨w.heap.size, 1, none⟩) (Nat.le_refl _) _).alloc (by rw [set_size]; omega) _).setCell (p := ⟨w.heap.size, 2, none⟩) (Nat.le_refl _) _
      have d6 := below_cell c6 bwB
      have HKS := Lib.hid (show SrcIs _ 1 (.slice ka D.keep.length kc) D.keep.length (intVs D.keep) from by have := src_below H.out.keep bwB (oneCell_ints _); rwa [HK.out] at this)
      have HBB := Lib.hid hblkB'
      have hzz : (wA.setCell ⟨w.heap.size, 1, none⟩ (.slice pa' D.pend.length pc')).heap.size = wA.heap.size := set_size _ _ _
      clear fA bA bwA cB fB hblkA hblkB hblkB' bwB
      go_wp2_with (go_at_call 42; refine (cloneM L.mm es clock _ HES2.out).mono ?_; rintro e wB ⟨rfl, rfl⟩; refine Hid.out ?_)
      refine Lib.hid ?_
      try rw [hzz]
      clear hzz
      generalize hwb : (wA.setCell ⟨w.heap.size, 1, none⟩ (.slice pa' D.pend.length pc')).alloc (.map es clock) = wB at cB2 fB2 d6 HKS HBB ⊢
      have HWB := Lib.hid hwb
      clear hwb d2
      go_wp2_with (go_at_call 43; refine (cloneI _ _ _ _ HKS.out (by omega)).mono ?_; rintro e wC ⟨vk, rfl, fC, bC⟩; refine Hid.out ?_)
      refine Lib.hid ?_
      obtain ⟨ka', kc', rfl⟩ := own_form fC.1
      have hblkC : wC.heap[w.heap.size]? = _ := (bC.block _ (lt_heap HBB.out)).trans HBB.out
      have cC6 : wC.cell? ⟨w.heap.size, 6, none⟩ = some L.kv := by rw [Lib.cell_of_heap hblkC]; rfl
      have fC6 : wC.frozen? ⟨w.heap.size, 6, none⟩ = false := Lib.frozen_of_heap hblkC 6
      have FC := Lib.hid fC
      have BC := Lib.hid bC
      clear fC bC hblkC
      go_wp2
      go_ret
      have hend := copy_end H.out h64 HI.out HL0.out BA.out FA.out HES.out (by rw [HWB.out]; exact BC.out) (by rw [HWB.out]; exact FC.out)
      exact ⟨w.heap.size, rfl, hend⟩
    · intro x y kl w1 cnt1 hkey hlk hmk hrg1 hlt1 hg1 hs1 hen
      obtain ⟨x', hx', rfl, _⟩ := Maps.keyOf_int_inv Try.underlying3 hkey
      cases hx'
      obtain ⟨f, hf, rfl, rfl⟩ := file_of hmk
      have hb1 := (HI.out.step h64 hg1 hs1).1
      have hblk1 := (HI.out.step h64 hg1 hs1).2.2.1
      have y0 := H.out.fc hf 0
      have y1 := H.out.fc hf 1
      simp only [List.getElem?_toArray, List.getElem?_cons_zero, List.getElem?_cons_succ] at y0 y1
      have x0 := below_cell y0 hb1
      have x1 := below_cell y1 hb1
      have cB : w1.cell? ⟨w.heap.size, 0, none⟩ = some (.map (some (w.heap.size + 1))) := by rw [Lib.cell_of_heap (hblk1.trans HI.out.blk)]; rfl
      obtain ⟨na, nc, hnv⟩ := own_form (H.out.now f hf)
      obtain ⟨da, dc, hdv⟩ := own_form (H.out.dur f hf)
      rw [hnv] at x0
      rw [hdv] at x1
      have hn1 := H.out.ok.now f
      have hd1 := H.out.ok.dur f
      have HSN := Lib.hid (show ∀ w', Below w.heap.size w w' → SrcIs w' 1 (.slice na (D.now f).length nc) (D.now f).length (byteVs (D.now f)) from fun w' hb => by have := src_below (H.out.now f hf) hb (oneCell_bytes _); rwa [hnv] at this)
      have HSD := Lib.hid (show ∀ w', Below w.heap.size w w' → SrcIs w' 1 (.slice da (D.dur f).length dc) (D.dur f).length (byteVs (D.dur f)) from fun w' hb => by have := src_below (H.out.dur f hf) hb (oneCell_bytes _); rwa [hdv] at this)
      have S0 := And.intro cB (And.intro x0 x1)
      have HB1 := Lib.hid hb1
      have HG1 := Lib.hid hg1
      have HS1 := Lib.hid hs1
      have HRG1 := Lib.hid hrg1
      have HLK := Lib.hid hlk
      have hfml := H.out.files.lt
      have hgl := lt_heap (H.out.file f hf)
      have hgs1 : w.heap.size ≤ w1.heap.size := hb1.size
      clear hb1 hblk1 y0 y1 hnv hdv hg1 hs1 hrg1 hlk hkey hmk
      go_wp2
      go_region_held3 (fun w' => w'.cell? ⟨w.heap.size, 0, none⟩ = some (.map (some (w.heap.size + 1))) ∧ w'.cell? ⟨L.g f, 0, none⟩ = some (.slice na (D.now f).length nc) ∧ w'.cell? ⟨L.g f, 1, none⟩ = some (.slice da (D.dur f).length dc)) (first | exact S0 | assumption | exact three_below ‹_› (below_alloc _ _)) (first | (go_at_call_of 40 (Value.slice na (D.now f).length nc); refine (cloneB (.slice na (D.now f).length nc) (D.now f).length (byteVs (D.now f)) w1.drew (HSN.out w1.drew HB1.out.drew) (by omega)).mono ?_; rintro e w2 ⟨v1, rfl, fr1, b1⟩; have b1' := undrew b1; have S2 := three_below S0 b1'; have hb2 := HB1.out.trans (b1'.mono hgs1); have hgs2 := hb2.size; obtain ⟨va1, vc1, rfl⟩ := own_form fr1.1; have FR1 := Lib.hid fr1; clear fr1 b1) | (go_at_call_of 40 (Value.slice da (D.dur f).length dc); refine (cloneB (.slice da (D.dur f).length dc) (D.dur f).length (byteVs (D.dur f)) w2 (HSD.out w2 hb2) (by omega)).mono ?_; rintro e w3 ⟨v2, rfl, fr2, b2⟩; have S3 := three_below S2 b2; obtain ⟨va2, vc2, rfl⟩ := own_form fr2.1; obtain ⟨w5, hup, hinv5, h5⟩ := copy_next HI.out h64 hf HLK.out HG1.out HS1.out HRG1.out hlt1 hfml FR1.out b1' fr2 b2; have S5 := copy_three S0 h5 hgs1 hgl; have HINV5 := Lib.hid hinv5; clear fr2 hinv5 h5))
      go_wp2
      go_roundw
      case rel => exact ⟨_, cnt1, HINV5.out⟩
      case measure =>
        obtain ⟨_, _, _, _, _, hI5⟩ := HINV5.out
        rw [hI5.rng.left_eq, HI.out.rng.left_eq]; exact hlt1
end
end Go.Proofs.Ytadnmoaemnajgaa
