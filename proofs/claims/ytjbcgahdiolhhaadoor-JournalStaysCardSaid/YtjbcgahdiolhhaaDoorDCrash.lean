/- Crash. -/
import Derived.Test.YtjbcgahdiolhhaaDoorDStep
namespace Go.Proofs.YtjbcgahdiolhhaaDoor.D2
open Go.RowKit Go.Maps Go.ChangeMaps Go.MapKept
open Dp
attribute [local go_sem ↓] Go.wp_at_zero Go.wp_at_succ

/-! ### Plain -/
theorem hardens_keeps (ps : List (Nat × Nat)) : ∀ D : Dk, (hardens D ps).now = D.now ∧ (hardens D ps).pend = D.pend ∧ (hardens D ps).down = D.down ∧ (hardens D ps).lost = D.lost ∧ (hardens D ps).calls = D.calls ∧ (hardens D ps).keep = D.keep := by
  induction ps with
  | nil => intro D; exact ⟨rfl, rfl, rfl, rfl, rfl, rfl⟩
  | cons p ps ih => intro D; exact ih (D.harden p)
theorem hardens_snoc (D : Dk) (ps : List (Nat × Nat)) (p : Nat × Nat) : hardens D (ps ++ [p]) = (hardens D ps).harden p := by simp [hardens, List.foldl_append]
theorem survive_append (ks : List Int) (qs : List (Nat × Nat)) : ∀ (ps : List (Nat × Nat)) (i : Nat), survive ks i (ps ++ qs) = survive ks i ps ++ survive ks (i + ps.length) qs := by
  intro ps
  induction ps with
  | nil => intro i; simp [survive]
  | cons p ps ih => intro i; simp [survive, ih, Nat.add_assoc, Nat.add_comm 1]
theorem survive_take (ks : List Int) (ps : List (Nat × Nat)) {k : Nat} {p : Nat × Nat} (h : ps[k]? = some p) : survive ks 0 (ps.take (k + 1)) = survive ks 0 (ps.take k) ++ (if odd ks k then [p] else []) := by
  obtain ⟨hk, rfl⟩ := List.getElem?_eq_some_iff.1 h
  rw [List.take_succ_eq_append_getElem hk, survive_append]
  simp [survive, Nat.min_eq_left (Nat.le_of_lt hk)]

theorem nodup_le : ∀ (n : Nat) (l : List Nat), l.Nodup → (∀ x ∈ l, x < n) → l.length ≤ n
  | 0, l, _, h => by cases l with | nil => simp | cons a l => exact absurd (h a (by simp)) (by omega)
  | n + 1, l, hn, h => by
    have h1 := nodup_le n (l.erase n) (hn.erase n) (fun x hx => by
      have h2 := h x (List.mem_of_mem_erase hx)
      have h3 : x ≠ n := fun e => by subst e; exact (hn.not_mem_erase) hx
      omega)
    have h4 := List.length_erase (a := n) (l := l)
    split at h4 <;> omega
theorem pend_len {D : Dk} (h : D.Ok) : D.pend.length ≤ 4194304 := by
  have := nodup_le 4194304 (D.pend.map fun p => p.1 * 262144 + p.2) ?_ ?_
  · simpa using this
  · refine List.pairwise_map.2 (h.pend.imp_of_mem ?_)
    intro p q hp hq hne he
    have h1 := h.few p hp
    have h2 := h.few q hq
    exact hne (Prod.ext (by omega) (by omega))
  · intro x hx
    obtain ⟨p, hp, rfl⟩ := List.mem_map.1 hx
    have := h.few p hp
    omega

/-! ### The keep list -/
def KeepOk (w : World) (lab : Nat → Nat) (id : Nat) (D : Dk) (L : Loc) (v : Value) (ks : List Int) : Prop :=
  SrcIs w 1 v ks.length (intVs ks) ∧ ((v = L.kv ∧ ks = D.keep) ∨ ∀ ad n c, v = .slice (some ad) n c → 0 < n → (lab ad.block < id ∨ id + 64 ≤ lab ad.block))
theorem KeepOk.src {w wr : World} {lab lab' : Nat → Nat} {id b : Nat} {D D' : Dk} {L L' : Loc} {mk' : List (Nat × Nat)} {v : Value} {ks : List Int} (h : KeepOk w lab id D L v ks) (hd : DiskIn wr lab' id b D' mk' L') (hL : L'.kv = L.kv) (hk : D'.keep = D.keep) (hc : Chg id lab lab' w wr) :
    SrcIs wr 1 v ks.length (intVs ks) := by
  obtain ⟨⟨h1, h2⟩, h3⟩ := h
  rcases h3 with ⟨rfl, rfl⟩ | h3
  · have := SrcIs.of_own hd.keep (oneCell_ints _)
    rw [hL, hk] at this
    exact this
  · refine ⟨h1, ?_⟩
    rcases h2 with h2 | ⟨ad, cap, rfl, h4, h5⟩
    · exact .inl h2
    · refine .inr ⟨ad, cap, rfl, fun j u hj => ?_, h5⟩
      have h6 := h4 j u hj
      have hb : (ad.add j).block = ad.block := by cases ad; unfold Addr.add; split <;> rfl
      rw [World.cell?_of_block (w := w) (hc.block _ (Lib.lt_of_cell h6) (by rw [hb]; exact h3 ad _ _ rfl (by have := (List.getElem?_eq_some_iff.1 hj).1; rw [intVs_length] at this; omega)))]
      exact h6
/-- The element that decides. -/
theorem src_cell {w : World} {v : Value} {ks : List Int} (h : SrcIs w 1 v ks.length (intVs ks)) (hp : 0 < ks.length) : ∃ bk ok cap, v = .slice (some ⟨bk, ok, none⟩) ks.length cap ∧ ∀ j, j < ks.length → w.cell? ⟨bk, ok + j, none⟩ = some (.int .i64 (ks.getD j 0)) := by
  obtain ⟨h1, h2⟩ := h
  rcases h2 with ⟨_, h0⟩ | ⟨⟨bk, ok, sp⟩, cap, rfl, h4, _⟩
  · omega
  · have hc : ∀ j, j < ks.length → w.cell? ((⟨bk, ok, sp⟩ : Addr).add j) = some (.int .i64 (ks.getD j 0)) := fun j hj => h4 j _ (by simp [intVs, List.getElem?_eq_getElem hj, List.getD_eq_getElem?_getD])
    have hs : sp = none := by simpa [Addr.add] using World.cell?_spot (hc 0 hp)
    subst hs
    exact ⟨bk, ok, cap, rfl, fun j hj => by have := hc j hj; rw [Lib.add_plain] at this; exact this⟩

/-! ### The first loop -/
def HardInv (lab : Nat → Nat) (id b : Nat) (D : Dk) (mk : List (Nat × Nat)) (L : Loc) (w : World) (ps : List (Nat × Nat)) (wr : World) : Prop :=
  ∃ lab' dv, DiskIn wr lab' id b (hardens D ps) mk { L with dv := dv } ∧ Chg id lab lab' w wr

section
variable {w : World} {lab : Nat → Nat} {id b : Nat} {D : Dk} {mk : List (Nat × Nat)} {L : Loc}
theorem HardInv.fresh {ps : List (Nat × Nat)} {wr w' : World} (h : HardInv lab id b D mk L w ps wr) (hb : Below wr.heap.size wr w') : HardInv lab id b D mk L w ps w' := by
  obtain ⟨lab', dv, h1, h2⟩ := h
  exact ⟨lab', dv, h1.fresh hb, h2.trans ⟨hb.os, hb.tape, hb.output, hb.size, fun _ _ => rfl, fun x hx _ => hb.block x hx, fun x hx => .inl (h1.lo x hx)⟩⟩

theorem sec_cell {w : World} {lab : Nat → Nat} {id b : Nat} {D : Dk} {mk : List (Nat × Nat)} {L : Loc} (h : DiskIn w lab id b D mk L) {k : Nat} {p : Nat × Nat} (hk : D.pend[k]? = some p) : ∃ pg cap, L.pv = .slice (some ⟨pg, 0, none⟩) D.pend.length cap ∧ w.cell? ⟨pg, k * 2, none⟩ = some (.int .i64 (p.1 : Int)) ∧ w.cell? ⟨pg, k * 2 + 1, none⟩ = some (.int .i64 (p.2 : Int)) := by
  obtain ⟨hkl, rfl⟩ := List.getElem?_eq_some_iff.1 hk
  have ho := h.pend
  rcases ho.2 with ⟨_, h0⟩ | ⟨pg, cap, cur, hv, _⟩
  · omega
  · rw [hv] at ho
    have hc := fun j u hj => ho.cells (g := pg) rfl j u hj
    have hs : ∀ (l : List (Nat × Nat)) (k : Nat) (p : Nat × Nat), l[k]? = some p → (secVs l)[k * 2]? = some (.int .i64 (p.1 : Int)) ∧ (secVs l)[k * 2 + 1]? = some (.int .i64 (p.2 : Int)) := by
      intro l
      induction l with
      | nil => intro k p h; simp at h
      | cons a l ih =>
        intro k p h
        cases k with
        | zero => simp at h; subst h; simp [secVs]
        | succ k =>
          have := ih k p (by simpa using h)
          have e1 : (k + 1) * 2 = k * 2 + 1 + 1 := by omega
          simpa [secVs, e1] using this
    have h2 := hs _ _ _ hk
    refine ⟨pg, cap, hv, ?_, ?_⟩
    · have := hc _ _ h2.1; rw [Lib.add_plain] at this; simpa using this
    · have := hc _ _ h2.2; rw [Lib.add_plain] at this; simpa using this

/-- What a call on the disk without results leaves. -/
def DiskPost (lab : Nat → Nat) (id b : Nat) (D' : Dk) (w : World) (e : Ending) (w' : World) : Prop :=
  e = .returned (.tuple #[]) ∧ ∃ lab' L', DiskIn w' lab' id b D' D'.pend L' ∧ Chg id lab lab' w w'

theorem crash_down (h : DiskIn w lab id b D mk L) (v : Value) (hd : D.down = true) : Calls Tryd.prog 18 #[.pointer (some ⟨b, 0, none⟩), v] w fun e w' => e = .returned (.tuple #[]) ∧ w = w' := by
  have c3 := h.c 3
  simp only [List.getElem?_toArray, List.getElem?_cons_zero, List.getElem?_cons_succ] at c3
  rw [hd] at c3
  clear h hd
  go_enter Tryd.func18, Tryd.ntmps18
  go_wp2
  (try simp only [Exit.inBlock, Exit.then])
  refine bodyPost_ret (results_none rfl _ _ _) rfl ?_
  exact ⟨rfl, rfl⟩

theorem Chg.of_drew {id : Nat} {lab lab' : Nat → Nat} {w w' : World} (h : Chg id lab lab' w.drew w') : Chg id lab lab' w w' := ⟨h.os, h.tape, h.output, h.size, h.labs, h.block, h.fresh⟩
theorem DiskIn.drew {w : World} {lab : Nat → Nat} {id b : Nat} {D : Dk} {mk : List (Nat × Nat)} {L : Loc} (h : DiskIn w lab id b D mk L) : DiskIn w.drew lab id b D mk L := h.fresh (Below.refl _ _).drew
theorem DiskIn.lookN {w : World} {lab : Nat → Nat} {id b : Nat} {D : Dk} {mk : List (Nat × Nat)} {L : Loc} (h : DiskIn w lab id b D mk L) {f : Nat} (hf : f < 16) :
    (Instr.lookup 60 (.map (some L.fm)) (.int .i64 (f : Int)) false).run Tryd.prog w = .ok (.pointer (some ⟨L.g f, 0, none⟩)) w := by
  rw [h.lookF (f := (f : Int)) ⟨by omega, by omega⟩, if_pos (by omega)]
  simp
theorem alloc_cell {w : World} {a : Addr} {v : Value} (h : w.cell? a = some v) (o : Obj) : (w.alloc o).cell? a = some v := (World.grownBy_alloc w o none).cell h (by simp)
theorem below_alloc (w : World) (o : Obj) : Below w.heap.size w (w.alloc o) := (Below.refl _ _).alloc (Nat.le_refl _) _

/-! ### The second loop -/
/-- The files of which the durable part has become the file. -/
def mixNow (D : Dk) (left : Lit → Bool) : Dk := { D with now := fun f => if f < 16 ∧ left (.int .i64 (f : Int)) = false then D.dur f else D.now f }
theorem mix_start (D : Dk) (g : Nat → Nat) : mixNow D (fun kl => (fileMap g kl).isSome) = D := by
  unfold mixNow
  have : (fun f : Nat => if f < 16 ∧ (fileMap g (.int .i64 (f : Int))).isSome = false then D.dur f else D.now f) = D.now := by
    funext f
    rw [if_neg]
    rintro ⟨h1, h2⟩
    simp [fileMap] at h2
    omega
  rw [this]
theorem mix_end (D : Dk) {left : Lit → Bool} (h : ∀ kl, left kl = false) : mixNow D left = { D with now := fun f => if f < 16 then D.dur f else D.now f } := by
  simp [mixNow, h]
theorem sameKey_int (x y : Int) : (Lit.int .i64 x).sameKey (.int .i64 y) = decide (x = y) := by
  by_cases h : x = y
  · subst h; simp [WideAt.sameKey_self (a := .int .i64 x) trivial]
  · rw [Maps.sameKey_ne (by simpa using h)]; simp [h]
theorem mix_step (D : Dk) (left : Lit → Bool) {f : Nat} (hf : f < 16) : mixNow D (fun z => left z && !z.sameKey (.int .i64 (f : Int))) = { mixNow D left with now := upd (mixNow D left).now f (D.dur f) } := by
  unfold mixNow
  congr 1
  funext i
  simp only [sameKey_int]
  by_cases h : i = f
  · subst h; simp [upd_same, hf]
  · rw [upd_other _ _ h]
    have : ¬ ((i : Int) = (f : Int)) := by omega
    simp [this]
theorem mix_keeps (D : Dk) (left : Lit → Bool) : (mixNow D left).dur = D.dur := rfl

theorem chg_iter {id : Nat} {lab lab' : Nat → Nat} {w wr w1 : World} {r : Nat} (h : Chg id lab lab' w wr) (g : wr.grownBy w1 (some r)) (hr : w.heap.size ≤ r) : Chg id lab lab' w w1 :=
  ⟨g.os.trans h.os, g.tape.trans h.tape, g.output.trans h.output, Nat.le_trans h.size g.size, h.labs, fun x hx hl => (g.block x (Nat.lt_of_lt_of_le hx h.size) (fun e => by cases e; omega)).trans (h.block x hx hl), h.fresh⟩
theorem file_of {g : Nat → Nat} {x : Int} {y : Nat} (h : fileMap g (.int .i64 x) = some (.pointer (some ⟨y, 0, none⟩))) : ∃ f : Nat, f < 16 ∧ x = (f : Int) ∧ y = g f := by
  simp only [fileMap] at h
  split at h
  · rename_i hx
    simp only [Option.some.injEq, Value.pointer.injEq, Addr.mk.injEq, and_true] at h
    exact ⟨x.toNat, by omega, by omega, h.symm⟩
  · cases h
theorem own_len (a : Option Addr) (n m c : Nat) : (Value.slice a n c).ownBlock = (Value.slice a m c).ownBlock := by cases a <;> rfl


def FilesInv (lab : Nat → Nat) (id b : Nat) (D : Dk) (mk : List (Nat × Nat)) (L : Loc) (w : World) (r : Nat) (left : Lit → Bool) (cnt : Nat) (wr : World) : Prop :=
  ∃ lab' nv, DiskIn wr lab' id b (mixNow D left) mk { L with nv := nv } ∧ Chg id lab lab' w wr ∧ RangeIs Tryd.prog wr 3 L.fm r L.fc (fileMap L.g) left cnt ∧ (∀ kl, left kl = true → (fileMap L.g kl).isSome = true) ∧ lab' r = 0 ∧ w.heap.size ≤ r

set_option maxHeartbeats 4000000 in
set_option maxRecDepth 100000 in
theorem crash_up (h : DiskIn w lab id b D D.pend L) (v : Value) (ks : List Int) (hk : KeepOk w lab id D L v ks) (hl : ks.length ≤ 140737488355327) (hd : D.down = false) (hin : D.In) :
    Calls Tryd.prog 18 #[.pointer (some ⟨b, 0, none⟩), v] w (DiskPost lab id b (D.crash ks) w) := by
  have c3 := h.c 3
  have c1 := h.c 1
  simp only [List.getElem?_toArray, List.getElem?_cons_zero, List.getElem?_cons_succ] at c3 c1
  rw [hd] at c3
  obtain ⟨pa, pc, hpv⟩ := own_form h.pend
  rw [hpv] at c1
  have H := Lib.hid h
  have HK := Lib.hid hk
  have HP := Lib.hid hpv
  have HD := Lib.hid hd
  have HI := Lib.hid hin
  have HC0 := Lib.hid (Chg.refl (id := id) h.lo)
  have hn : D.pend.length ≤ 4194304 := pend_len h.ok
  obtain ⟨va, vc, rfl⟩ : ∃ va vc, v = .slice va ks.length vc := by
    rcases hk.1.2 with ⟨rfl, h0⟩ | ⟨ad, cap, rfl, _⟩
    · exact ⟨none, 0, by rw [h0]⟩
    · exact ⟨_, _, rfl⟩
  clear h hk hpv hd hin
  go_enter Tryd.func18, Tryd.ntmps18
  go_wp2
  go_loopw [17] (fun i wr => ∃ k : Nat, k ≤ D.pend.length ∧ i = .int .i64 (k : Int) ∧ HardInv lab id b D D.pend L w (survive ks 0 (D.pend.take k)) wr) (fun i _ => D.pend.length - (intOf i).toNat)
  case atStart => exact ⟨0, Nat.zero_le _, rfl, lab, L.dv, H.out, HC0.out⟩
  case round =>
    obtain ⟨k, hkl, rfl, hinv⟩ := hrel
    have HINV := Lib.hid hinv
    clear hinv
    by_cases hlt : k < D.pend.length
    · obtain ⟨p, hp⟩ : ∃ p, D.pend[k]? = some p := ⟨_, List.getElem?_eq_getElem hlt⟩
      obtain ⟨lab1, dv1, h1, k1⟩ := HINV.out
      obtain ⟨pg, cap, hpv2, s0, s1⟩ := sec_cell (k := k) (p := p) h1 (by rw [(hardens_keeps _ D).2.1]; exact hp)
      rw [(hardens_keeps _ D).2.1] at hpv2
      have hpv3 := HP.out.symm.trans hpv2
      simp only [Value.slice.injEq, true_and] at hpv3
      obtain ⟨rfl, rfl⟩ := hpv3
      have hsrc := HK.out.src h1 rfl (hardens_keeps _ D).2.2.2.2.2 k1
      have HSRC := Lib.hid hsrc
      have HPP := Lib.hid hp
      clear h1 k1 hpv2 hsrc hp c1 c3
      by_cases ho : odd ks k = true
      · have h0 : 0 < ks.length := by simp [odd] at ho; exact ho.1
        have hz : ¬ ((ks.getD (k % ks.length) 0).tmod 2 = 0) := by simp only [odd, Bool.and_eq_true, decide_eq_true_eq] at ho; exact ho.2
        have HE := Lib.hid (show survive ks 0 (D.pend.take (k + 1)) = survive ks 0 (D.pend.take k) ++ [p] by rw [survive_take ks D.pend HPP.out, if_pos ho])
        obtain ⟨bk, ok, cap2, hv, hcell⟩ := src_cell HSRC.out (by omega)
        simp only [Value.slice.injEq, true_and] at hv
        obtain ⟨rfl, rfl⟩ := hv
        have hmod : k % ks.length < ks.length := Nat.mod_lt _ (by omega)
        have kc := hcell _ hmod
        generalize ks.getD (k % ks.length) 0 = z at kc hz
        generalize hq : k % ks.length = q at kc hmod
        have ht : (k : Int).tmod (ks.length : Int) = (q : Int) := by rw [← hq]; exact (Int.ofNat_tmod k ks.length).symm
        have kc2 := alloc_cell kc (.cells #[.int .i64 (p.1 : Int), .int .i64 (p.2 : Int)] 78)
        clear hcell hq kc ho
        have hp16 : p.1 < 16 := (H.out.ok.few p (List.mem_of_getElem? HPP.out)).1
        have hpn := HI.out p (List.mem_of_getElem? HPP.out)
        have HPN := Lib.hid hpn
        clear hpn
        go_wp2
        obtain ⟨lab2, dv2, h2, k2⟩ := HINV.out.fresh (below_alloc wr (.cells #[.int .i64 (p.1 : Int), .int .i64 (p.2 : Int)] 78))
        have a0 : (wr.alloc (.cells #[.int .i64 (p.1 : Int), .int .i64 (p.2 : Int)] 78)).cell? ⟨wr.heap.size, 0, none⟩ = some (.int .i64 (p.1 : Int)) := by simp
        have a1 : (wr.alloc (.cells #[.int .i64 (p.1 : Int), .int .i64 (p.2 : Int)] 78)).cell? ⟨wr.heap.size, 1, none⟩ = some (.int .i64 (p.2 : Int)) := by simp
        generalize wr.alloc (.cells #[.int .i64 (p.1 : Int), .int .i64 (p.2 : Int)] 78) = wa at h2 k2 a0 a1 kc2 ⊢
        have c0 := h2.c 0
        simp only [List.getElem?_toArray, List.getElem?_cons_zero] at c0
        have hl5 := h2.drew.lookN hp16
        have H2 := Lib.hid h2.drew
        have K2 := Lib.hid k2
        clear h2 k2 kc2 hz
        simp only at c0 hl5
        go_region_with (first | (go_at_call 41; refine (harden_any H2.out hp16 (by rw [(hardens_keeps _ D).1]; exact HPN.out)).mono ?_; rintro e w3 ⟨rfl, lab3, dv3, h3, k3⟩; have H3 := Lib.hid h3; have K3 := Lib.hid k3; clear h3 k3))
        all_goals
          go_wp2
          go_roundw
          case rel => exact ⟨k + 1, by omega, by go_num, lab3, dv3, by rw [HE.out, hardens_snoc]; exact H3.out, K2.out.trans K3.out.of_drew⟩
          case measure => simp [intOf]; omega
      · have HO := Lib.hid ho
        have HE := Lib.hid (show HardInv lab id b D D.pend L w (survive ks 0 (D.pend.take (k + 1))) wr by
          rw [survive_take ks D.pend HPP.out, if_neg ho, List.append_nil]; exact HINV.out)
        clear ho
        by_cases h0 : ks.length = 0
        · obtain rfl : ks = [] := List.eq_nil_of_length_eq_zero h0
          go_wp2
          go_roundw
          case rel => exact ⟨k + 1, by omega, by go_num, HE.out.fresh (below_alloc _ _)⟩
          case measure => simp [intOf]; omega
        · obtain ⟨bk, ok, cap2, hv, hcell⟩ := src_cell HSRC.out (by omega)
          simp only [Value.slice.injEq, true_and] at hv
          obtain ⟨rfl, rfl⟩ := hv
          have hmod : k % ks.length < ks.length := Nat.mod_lt _ (by omega)
          have kc := hcell _ hmod
          have hz : (ks.getD (k % ks.length) 0).tmod 2 = 0 := by
            have := HO.out
            simp only [odd, Bool.and_eq_true, decide_eq_true_eq, not_and, Decidable.not_not] at this
            exact this (by omega)
          generalize ks.getD (k % ks.length) 0 = z at kc hz
          generalize hq : k % ks.length = q at kc hmod
          have ht : (k : Int).tmod (ks.length : Int) = (q : Int) := by rw [← hq]; exact (Int.ofNat_tmod k ks.length).symm
          have kc2 := alloc_cell kc (.cells #[.int .i64 (p.1 : Int), .int .i64 (p.2 : Int)] 78)
          clear hcell hq kc
          go_wp2
          go_roundw
          case rel => exact ⟨k + 1, by omega, by go_num, HE.out.fresh (below_alloc _ _)⟩
          case measure => simp [intOf]; omega
    · have hkk : k = D.pend.length := by omega
      have hfull : HardInv lab id b D D.pend L w (survive ks 0 D.pend) wr := by
        have := HINV.out
        rwa [hkk, List.take_of_length_le (Nat.le_refl _)] at this
      have hds := hardens_keeps (survive ks 0 D.pend) D
      have HCR := Lib.hid (show D.crash ks = { hardens D (survive ks 0 D.pend) with now := fun f => if f < 16 then (hardens D (survive ks 0 D.pend)).dur f else (hardens D (survive ks 0 D.pend)).now f, pend := [], calls := 0, keep := [], down := true } by
        simp [Dk.crash, HD.out])
      clear hkk HINV hkl
      obtain ⟨lab1, dv1, h1, k1⟩ := hfull
      generalize hardens D (survive ks 0 D.pend) = D1 at h1 hds HCR
      obtain ⟨e1, e2, e3, e4, e5, e6⟩ := hds
      have HE2 := Lib.hid e2
      have c0 := h1.c 0
      simp only [List.getElem?_toArray, List.getElem?_cons_zero] at c0
      have H1 := Lib.hid h1
      have K1 := Lib.hid k1
      have HFM := Lib.hid h1.files
      clear h1 k1 c3 c1 e1 e2 e3 e4 e5 e6
      go_wp2_with (first | (at_range; refine wpList_range_is rfl _ 60 rfl _ lawI Tryd.underlying60 rfl HFM.out ?_; intro w0 hrg0 hg0 hs0) | go_in)
      try go_frame
      have HST := Lib.hid (show FilesInv lab id b D1 D.pend { L with dv := dv1 } w wr.heap.size (fun kl => (fileMap L.g kl).isSome) L.fc w0 from by
        have hb0 : Below wr.heap.size wr w0 := ⟨hg0.os, hg0.tape, hg0.output, hg0.size, fun i hi => hg0.block i hi (by simp)⟩
        refine ⟨lab1, L.nv, by rw [mix_start]; exact H1.out.fresh hb0, K1.out.trans ⟨hb0.os, hb0.tape, hb0.output, hb0.size, fun _ _ => rfl, fun x hx _ => hb0.block x hx, fun x hx => .inl (H1.out.lo x hx)⟩, hrg0, fun _ h => h, H1.out.lo _ (Nat.le_refl _), K1.out.size⟩)
      have hr0 : wr.heap.size < w0.heap.size := by omega
      generalize wr.heap.size = r at HST hr0 ⊢
      clear hrg0 hg0 hs0 c0
      go_loopw [7] (fun _ wr => ∃ left cnt, FilesInv lab id b D1 D.pend { L with dv := dv1 } w r left cnt wr) (fun _ wr => wr.rangeLeft L.fm r)
      case atStart => exact ⟨_, _, HST.out⟩
      case round =>
        obtain ⟨left, cnt, hinv⟩ := hrel
        obtain ⟨lab2, nv2, h2, k2, hrg, hlm, hlr, hrw⟩ := hinv
        have H2 := Lib.hid h2
        have K2 := Lib.hid k2
        have HRG := Lib.hid hrg
        have HLM := Lib.hid hlm
        have HLR := Lib.hid hlr
        clear h2 k2 hrg hlm hlr
        go_wp2_with (first | (at_next; refine wpList_next_is rfl _ rfl lawI (Value.int .i64) (fun y : Nat => Value.pointer (some ⟨y, 0, none⟩)) (fun key kl hk => by obtain ⟨x, hx, _⟩ := Maps.keyOf_int_inv Tryd.underlying3 hk; exact ⟨x, hx⟩) r cnt left rfl HRG.out (fun kl v hv _ => by unfold fileMap at hv; split at hv <;> (try split at hv) <;> simp at hv; exact ⟨_, hv.symm⟩) HLM.out ?_ ?_) | go_in)
        · intro _ hl0
          have HL0 := Lib.hid hl0
          clear hl0
          have h2 := H2.out
          have k2 := K2.out
          rw [mix_end D1 HL0.out] at h2
          have c1 := h2.c 1
          have f1 := h2.fz 1
          simp only [List.getElem?_toArray, List.getElem?_cons_zero, List.getElem?_cons_succ] at c1
          obtain ⟨h3, k3⟩ := h2.setPend (ps := []) (v' := .slice none 0 0) List.nodup_nil (fun _ h => by cases h) ⟨rfl, rfl, rfl, Nat.le_refl _, fun _ _ _ => rfl⟩ (World.ownsRow_nil _ _ _ _) (.inr fun k hk => by cases hk) (Hp.refl _)
          obtain ⟨w5, hclr, m5, g5⟩ := h3.marks.wipe Tryd.underlying61
          obtain ⟨h4, k4⟩ := h3.setMarks (mk' := []) g5 (Hp.refl _) (m5.congr markMap_nil rfl)
          have m2 := h3.c 2
          have c5 := h4.c 5
          have c6 := h4.c 6
          have c3 := h4.c 3
          have f5 := h4.fz 5
          have f6 := h4.fz 6
          have f3 := h4.fz 3
          simp only [List.getElem?_toArray, List.getElem?_cons_zero, List.getElem?_cons_succ] at m2 c5 c6 c3
          have H4 := Lib.hid h4
          have K4 := Lib.hid ((k2.trans k3).trans k4)
          have HCL := Lib.hid hclr
          clear h2 k2 h3 k3 h4 k4 hclr m5 g5 hlt
          go_wp2_with (refine wpList_clear_run rfl _ 61 rfl _ rfl _ (HCL.out _) ?_)
          go_end0
          have h4 := H4.out
          obtain ⟨h5, k5⟩ := h4.setField (D' := { now := fun f => if f < 16 then D1.dur f else D1.now f, dur := D1.dur, pend := [], down := D1.down, lost := D1.lost, calls := 0, keep := D1.keep }) (i := 5) (v := .int .i64 0) (Hp.refl _)
            ⟨h4.ok.now, h4.ok.dur, h4.ok.pend, h4.ok.few, h4.ok.lost, by simp, h4.ok.keep, h4.ok.size⟩ rfl rfl rfl rfl rfl
          obtain ⟨h6, k6⟩ := h5.setKeep (ks := []) (v' := .slice none 0 0) (fun _ h => by cases h) (by simp) ⟨rfl, rfl, rfl, Nat.le_refl _, fun _ _ _ => rfl⟩ (World.ownsRow_nil _ _ _ _) (.inr fun k hk => by cases hk) (Hp.refl _)
          obtain ⟨h7, k7⟩ := h6.setField (D' := D.crash ks) (i := 3) (v := .bool true) (Hp.refl _) (by rw [HCR.out]; exact ⟨h6.ok.now, h6.ok.dur, h6.ok.pend, h6.ok.few, h6.ok.lost, h6.ok.calls, h6.ok.keep, h6.ok.size⟩) (by rw [HCR.out]) (by rw [HCR.out]) (by rw [HCR.out]) (by rw [HCR.out]) (by rw [HCR.out]; rfl)
          exact ⟨rfl, _, _, by rw [show (D.crash ks).pend = [] by rw [HCR.out]]; exact h7, ((K4.out.trans k5).trans k6).trans k7⟩
        · intro x y kl w1 cnt1 hkey hlk hmk hrg1 hlt1 hg1 hs1 hen
          obtain ⟨x', hx', rfl, _⟩ := Maps.keyOf_int_inv Tryd.underlying3 hkey
          cases hx'
          obtain ⟨f, hf, rfl, rfl⟩ := file_of hmk
          have h3 : DiskIn w1 lab2 id b (mixNow D1 left) D.pend { L with dv := dv1, nv := nv2 } := H2.out.kept (fun z hz => H2.out.lo z (by omega)) (fun _ _ => rfl) fun z hz h5 _ => hg1.block z hz (fun e => by cases e; rw [HLR.out] at h5; have := H2.out.id64; omega)
          have k3 := chg_iter K2.out hg1 hrw
          obtain ⟨na, nc, hnv⟩ := own_form (h3.now f hf)
          obtain ⟨da, dc, hdv⟩ := own_form (h3.dur f hf)
          simp only at hnv hdv
          have hz0 := h3.now f hf
          simp only at hz0
          rw [hnv] at hz0
          have hd0 := h3.dur f hf
          simp only at hd0
          rw [hdv] at hd0
          obtain ⟨v', w2, hr2, ho2, hg2, hl2⟩ := run_append_bytes0 w1.drew _ _ _ (own_zero hz0) hd0 (by have := h3.ok.dur f; omega)
          obtain ⟨va', vc', rfl⟩ := own_form ho2
          have hg2' : w1.grownBy w2 (nv2 f).ownBlock := by rw [hnv, own_len na _ 0 nc]; exact drew_grown hg2
          have hgl := lt_heap (h3.file f hf)
          have hgn : (nv2 f).ownBlock ≠ some (L.g f) := fun e => by have h5 := h3.ln f hf _ e; have h6 := h3.lg f hf; simp only at h6; omega
          have c0 := h3.fc hf 0
          have c1 := h3.fc hf 1
          simp only [List.getElem?_toArray, List.getElem?_cons_zero, List.getElem?_cons_succ] at c0 c1
          have d0 := hg2'.cell c0 (fun e => hgn e.symm)
          have f0 : w2.frozen? ⟨L.g f, 0, none⟩ = false := (World.frozen?_of_block (w := w1) (hg2'.block _ hgl (fun e => hgn e.symm))).trans (h3.ffz hf 0)
          rw [hnv] at c0 d0
          rw [hdv] at c1
          have HR2 := Lib.hid hr2
          have H3 := Lib.hid h3
          have K3 := Lib.hid k3
          have HO2 := Lib.hid ho2
          have HG2 := Lib.hid hg2'
          have HL2 := Lib.hid (show (Value.slice va' (((mixNow D1 left).dur f).length) vc').ownBlock = (nv2 f).ownBlock ∨ ∀ k, (Value.slice va' (((mixNow D1 left).dur f).length) vc').ownBlock = some k → w1.heap.size ≤ k by rw [hnv, own_len na _ 0 nc]; exact hl2)
          have HRG1 := Lib.hid hrg1
          have HNV := Lib.hid hnv
          clear h3 k3 hnv hdv hz0 hd0 hr2 ho2 hg2 hg2' hl2 hgn hg1 hs1 hkey hmk hrg1 hlk
          go_wp2
          go_region_law (first | (refine step_append_run (by rfl) _ _ _ _ (by rfl) _ _ (by rfl) (by rfl) _ _ HR2.out ?_))
          all_goals
            have hset := H3.out.setNow hf (r := (mixNow D1 left).dur f) (H3.out.ok.dur f) HG2.out HO2.out HL2.out (Hp.refl _)
            have hfm : (w2.setCell ⟨L.g f, 0, none⟩ (.slice va' (((mixNow D1 left).dur f).length) vc')).heap[L.fm]? = w1.heap[L.fm]? := by
              have h5 := H3.out.lf
              have h6 := H3.out.lg f hf
              simp only at h5 h6
              rw [set_other (fun e => by rw [e] at h5; simp only at h5; omega)]
              exact HG2.out.block _ HRG1.out.map.lt (fun e => by have := H3.out.ln f hf _ e.symm; omega)
            have hrr : (w2.setCell ⟨L.g f, 0, none⟩ (.slice va' (((mixNow D1 left).dur f).length) vc')).heap[r]? = w1.heap[r]? := by
              have h5 := HLR.out
              have h6 := H3.out.lg f hf
              simp only at h6
              rw [set_other (fun e => by rw [e] at h5; simp only at h5; omega)]
              exact HG2.out.block _ HRG1.out.lt (fun e => by have := H3.out.ln f hf _ e.symm; omega)
            have hrg5 := HRG1.out.kept hfm hrr
            have HSET := Lib.hid hset
            have HRG5 := Lib.hid hrg5
            clear hset hrg5 hfm hrr
            go_wp2
            go_roundw
            case rel => exact ⟨_, cnt1, _, _, by rw [mix_step D1 left hf]; exact HSET.out.1, K3.out.trans HSET.out.2, HRG5.out, fun kl hkl => HLM.out kl (by simp at hkl; exact hkl.1), by rw [HSET.out.2.labs r HRG1.out.lt]; exact HLR.out, hrw⟩
            case measure => rw [HRG5.out.left_eq, HRG.out.left_eq]; exact hlt1

theorem crash_any (h : DiskIn w lab id b D D.pend L) (v : Value) (ks : List Int) (hk : KeepOk w lab id D L v ks) (hl : ks.length ≤ 140737488355327) (hin : D.In) :
    Calls Tryd.prog 18 #[.pointer (some ⟨b, 0, none⟩), v] w (DiskPost lab id b (D.crash ks) w) := by
  cases hd : D.down with
  | false => exact crash_up h v ks hk hl hd hin
  | true =>
    refine (crash_down h v hd).mono ?_
    rintro e w' ⟨rfl, rfl⟩
    have : D.crash ks = D := by simp [Dk.crash, hd]
    rw [this]
    exact ⟨rfl, lab, L, h, Chg.refl h.lo⟩
end
end Go.Proofs.YtjbcgahdiolhhaaDoor.D2
