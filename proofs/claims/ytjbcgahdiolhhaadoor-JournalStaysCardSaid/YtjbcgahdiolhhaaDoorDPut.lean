/- put: bytes into others at an offset. -/
import Derived.Test.YtjbcgahdiolhhaaDoorDHeap
import Derived.Lib.AtoiErrMem
import Derived.Lib.ItoaMem
namespace Go.Proofs.YtjbcgahdiolhhaaDoor.D2
open Go.RowKit Go.Maps Go.ChangeMaps Go.MapKept
open Dp

theorem zeros_eq (z : Value) (hz : z.cells = #[z]) (n : Nat) : (Builtin.zeroCells z.cells n).toList = List.replicate n z := by
  rw [hz]
  unfold Builtin.zeroCells
  apply List.ext_getElem
  · simp
  · intro i h1 h2; simp [Nat.mod_one]

section
variable {P : Program} (w : World)
theorem run_append_room_zeros (t tn ty e : TypeId) (i : TypeInfo) (z : Value) (kq kn : IntKind) (ht : P.underlying t = some (.slice e)) (htn : P.underlying tn = some (.int kn)) (hi : P.info? e = some i) (hz : i.zero = some z) (hs1 : i.size = 1) (hb1 : i.bytes = 1) (hzc : z.cells = #[z]) (hz1 : z.oneCell' = true)
    (g sLen sCap : Nat) (cur : Array Value) (hg : w.heap[g]? = some (.cells cur e (0, 0))) (k : Nat) (h0 : 0 < k) (hm : k ≤ 140737488355328) (hroom : sLen + k ≤ sCap) (hfit : sLen + k ≤ cur.size) :
    (Builtin.append_ #[t, tn] ty #[.slice (some ⟨g, 0, none⟩) sLen sCap, .int kq k]).run P w =
      .ok (.slice (some ⟨g, 0, none⟩) (sLen + k) sCap) (w.setRow g (cur.toList.take sLen ++ List.replicate k z ++ cur.toList.drop (sLen + k)).toArray) := by
  have hk : k ≠ 0 := by omega
  have hw : IntKind.i64.wrap (k : Int) = k := by rw [IntKind.wrap_i64]; omega
  have hst := run_storeCells_at P g sLen e (List.replicate k z) 0 cur w hg (by simpa using hfit) (fun u hu => by rw [List.eq_of_mem_replicate hu]; exact hz1)
  simp only [Nat.add_zero, List.length_replicate] at hst
  have h48i : ¬ (281474976710656 < (k : Int)) := by omega
  have hneg : ¬ ((k : Int) < 0) := by omega
  have hzz := zeros_eq z hzc k
  simp [Builtin.append_, run_underlying ht, run_underlying htn, sizeOf, typeInfo, zeroValue, hi, hz, hs1, hb1, asInt, asIntOf, hw, hk, hneg, h48i, hroom, hzz, Addr.add_lit, hst]

theorem run_append_own_zeros (t tn ty e : TypeId) (i : TypeInfo) (z : Value) (kq kn : IntKind) (ht : P.underlying t = some (.slice e)) (htn : P.underlying tn = some (.int kn)) (hi : P.info? e = some i) (hz : i.zero = some z) (hs1 : i.size = 1) (hb1 : i.bytes = 1) (hzc : z.cells = #[z]) (hz1 : z.oneCell' = true)
    (v : Value) (n : Nat) (xs : List Value) (hown : w.ownsRow 0 e 1 v n xs) (k : Nat) (h0 : 0 < k) (hm : n + k ≤ 140737488355327) :
    ∃ v' w', (Builtin.append_ #[t, tn] ty #[v, .int kq k]).run P w = .ok v' w' ∧ w'.ownsRow 0 e 1 v' (n + k) (xs ++ List.replicate k z) ∧ w.grownBy w' v.ownBlock ∧ (v'.ownBlock = v.ownBlock ∨ v'.ownBlock = some w.heap.size) := by
  have hx : xs.length = n := by have := hown.1; omega
  have hzz := zeros_eq z hzc k
  have grown : ∀ (old : Nat), old < n + k → ∀ (row : Option Nat),
      (w.drew.alloc (.cells (xs.toArray ++ Builtin.zeroCells z.cells k ++ Builtin.zeroCells z.cells (grownCap w (n + k) old e - (n + k))) e)).ownsRow 0 e 1
        (.slice (some ⟨w.heap.size, 0, none⟩) (n + k) (grownCap w (n + k) old e)) (n + k) (xs ++ List.replicate k z) ∧
      w.grownBy (w.drew.alloc (.cells (xs.toArray ++ Builtin.zeroCells z.cells k ++ Builtin.zeroCells z.cells (grownCap w (n + k) old e - (n + k))) e)) row := by
    intro old _ row
    have hge := grownCap_ge w (n + k) old e
    have hcm : grownCap w (n + k) old e ≤ maxLen := grownCap_le_maxLen w (n + k) old e (by unfold maxLen; omega)
    refine ⟨⟨by simp [hx], .inr ⟨w.heap.size, _, _, rfl, Nat.zero_le _, heap_alloc_new w.drew _, hge, hcm, ?_, ?_⟩⟩, ⟨rfl, rfl, rfl, by simp, fun j hj _ => Lib.alloc_old w.drew _ j hj⟩⟩
    · simp only [Array.size_append, List.size_toArray, size_zeroCells, hzc, hx]
      simp; omega
    · simp only [Array.toList_append, hzz]
      have : (n + k) * 1 = (xs ++ List.replicate k z).length := by simp [hx]
      rw [this]
      exact List.take_left
  rcases hown.2 with ⟨rfl, rfl⟩ | ⟨g, cap, cur, rfl, _, hg, hnc, hcm, hcs, htake⟩
  · obtain rfl : xs = [] := List.eq_nil_of_length_eq_zero hx
    have hr := Lib.run_append_nil_zeros (P := P) w t tn ty e i z kq kn ht htn hi hz k h0 (by omega) (by omega) (by rw [hb1]; omega)
    have hgr := grown 0 (by omega) (Value.ownBlock (.slice none 0 0))
    simp only [Nat.zero_add, List.nil_append, Array.empty_append] at hgr ⊢
    exact ⟨_, _, hr, hgr.1, hgr.2, .inr rfl⟩
  · by_cases hroom : n + k ≤ cap
    · have hr := run_append_room_zeros (P := P) w t tn ty e i z kq kn ht htn hi hz hs1 hb1 hzc hz1 g n cap cur hg k h0 (by omega) hroom (by omega)
      refine ⟨_, _, hr, ⟨by simp [hx], .inr ⟨g, cap, _, rfl, Nat.zero_le _, setRow_heap w g cur _ e _ hg, hroom, hcm, ?_, ?_⟩⟩, ⟨rfl, rfl, rfl, by simp, fun k hk hne => setRow_other w g k _ (fun e => hne (by simp [Value.ownBlock, e]))⟩, .inl rfl⟩
      · simp only [List.size_toArray, List.length_append, List.length_take, List.length_drop, Array.length_toList, List.length_replicate]
        omega
      · simp only [Nat.mul_one] at htake ⊢
        rw [htake]
        have : n + k = (xs ++ List.replicate k z).length := by simp [hx]
        rw [this]
        exact List.take_left
    · have holds := (run_firstCells_some (P := P) w.drew i.size n ⟨g, 0, none⟩ cap n xs (by rw [hs1]; omega) (fun j u hj => hown.cells (g := g) rfl j u hj))
      have hr := Lib.run_append_grow_zeros (P := P) w t tn ty e i z kq kn ht htn hi hz (some ⟨g, 0, none⟩) n cap xs holds k h0 (by omega) (by omega) (by omega) (by rw [hb1]; omega) (by rw [hb1]; exact growslice_fits (by omega) (by omega))
      have hgr := grown cap (by omega) (Value.ownBlock (.slice (some ⟨g, 0, none⟩) n cap))
      exact ⟨_, _, hr, hgr.1, hgr.2, .inr rfl⟩
end

/-! ### The walk -/
theorem oneCell_bytes (t : List UInt8) : ∀ u ∈ byteVs t, u.oneCell' = true := by
  intro u hu; obtain ⟨b, _, rfl⟩ := List.mem_map.1 hu; rfl

/-- Behind the copying. -/
theorem copied {w : World} {g cap n a : Nat} {l t : List UInt8} (h : w.ownsRow 0 5 1 (.slice (some ⟨g, 0, none⟩) n cap) n (byteVs l)) (hn : l.length = n) (ha : a + t.length ≤ n) (cur : Array Value) (hg : w.heap[g]? = some (.cells cur 5 (0, 0))) :
    (w.setRow g (cur.toList.take a ++ (byteVs t ++ cur.toList.drop (a + (byteVs t).length))).toArray).ownsRow 0 5 1 (.slice (some ⟨g, 0, none⟩) n cap) n (byteVs (l.take a ++ t ++ l.drop (a + t.length))) ∧ w.grownBy (w.setRow g (cur.toList.take a ++ (byteVs t ++ cur.toList.drop (a + (byteVs t).length))).toArray) (some g) := by
  rw [byteVs_length]
  refine ⟨?_, ⟨rfl, rfl, rfl, by simp, fun k hk hne => setRow_other w g k _ (fun e => hne (by rw [e]))⟩⟩
  obtain ⟨h1, h2⟩ := h
  refine ⟨by simp [byteVs_length]; omega, .inr ?_⟩
  rcases h2 with ⟨h2, h3⟩ | ⟨g', cap', cur', h2, _, h4, h5, h6, h7, h8⟩
  · cases h2
  · cases h2
    obtain rfl : cur' = cur := by rw [hg] at h4; cases h4; rfl
    refine ⟨g, cap, _, rfl, Nat.zero_le _, setRow_heap w g cur' _ _ _ hg, h5, h6, ?_, ?_⟩
    · have : cur'.toList.length = cap := by rw [Array.length_toList]; omega
      simp only [List.size_toArray, List.length_append, List.length_take, List.length_drop, byteVs_length, this]; omega
    · simp only [Nat.mul_one] at h8 ⊢
      have hl : cur'.toList.length = cap := by rw [Array.length_toList]; omega
      have e1 : byteVs (l.take a ++ t ++ l.drop (a + t.length)) = (byteVs l).take a ++ (byteVs t ++ (byteVs l).drop (a + t.length)) := by simp [byteVs, List.map_append, List.map_take, List.map_drop]
      rw [e1, ← h8]
      rw [List.take_take, Nat.min_eq_left (by omega)]
      rw [List.take_append, List.take_append]
      simp only [List.length_take, byteVs_length, hl, List.take_take]
      rw [Nat.min_eq_right (by omega), Nat.min_eq_left (by omega : a ≤ cap)]
      rw [List.take_of_length_le (by rw [byteVs_length]; omega : (byteVs t).length ≤ n - a)]
      rw [List.drop_take]
      congr 3
      omega

def PutPost (v : Value) (r : List UInt8) (w : World) (e : Ending) (w' : World) : Prop :=
  ∃ v', e = .returned v' ∧ w'.ownsRow 0 5 1 v' r.length (byteVs r) ∧ w.grownBy w' v.ownBlock ∧ (v'.ownBlock = v.ownBlock ∨ ∀ k, v'.ownBlock = some k → w.heap.size ≤ k)

theorem putL_stay {l : List UInt8} {a : Nat} {t : List UInt8} (h : a + t.length ≤ l.length) : putL l a t = l.take a ++ t ++ l.drop (a + t.length) := by
  simp [putL, Nat.sub_eq_zero_of_le h]

set_option maxHeartbeats 1000000 in
set_option maxRecDepth 100000 in
theorem put_stay (v : Value) (l : List UInt8) (a : Nat) (t : List UInt8) (gs os c : Nat) (w : World) (ht : 0 < t.length) (hown : w.ownsRow 0 5 1 v l.length (byteVs l)) (hl : a + t.length ≤ 16777216) (hle : a + t.length ≤ l.length)
    (hsrc : ∀ j u, (byteVs t)[j]? = some u → w.cell? ((⟨gs, os, none⟩ : Addr).add j) = some u) :
    Calls Tryd.prog 52 #[v, .int .i64 (a : Int), .slice (some ⟨gs, os, none⟩) t.length c] w (PutPost v (putL l a t) w) := by
  obtain ⟨g, cap, cur, rfl, hg, hnc, hcm⟩ : ∃ g cap cur, v = .slice (some ⟨g, 0, none⟩) l.length cap ∧ w.heap[g]? = some (.cells cur 5 (0, 0)) ∧ l.length ≤ cap ∧ cap ≤ maxLen := by
    rcases hown.2 with ⟨_, h⟩ | ⟨g, cap, cur, hv, _, hg, h1, h2, _⟩
    · omega
    · exact ⟨g, cap, cur, hv, hg, h1, h2⟩
  have hc := copied hown rfl hle cur hg
  rw [← putL_stay hle] at hc
  have hcs : a + (byteVs t).length ≤ cur.size := by
    rcases hown.2 with ⟨h, _⟩ | ⟨g', cap', cur', hv, _, hg', h1, h2, h3, _⟩
    · cases h
    · cases hv; rw [hg] at hg'; cases hg'; rw [byteVs_length]; omega
  have HC := Lib.hid hc
  have HS := Lib.hid hsrc
  have HG := Lib.hid hg
  have HN := Lib.hid (show (byteVs t).length = Nat.min t.length (l.length - a) by rw [byteVs_length]; simp only [Nat.min_def]; split <;> omega)
  have hlen : (putL l a t).length = l.length := by rw [putL_length]; omega
  have HL := Lib.hid hlen
  have HB := Lib.hid (byteVs_length t)
  unfold maxLen at hcm
  clear hc hsrc hown hg hlen
  go_enter Tryd.func52, Tryd.ntmps52
  go_wp2_with (refine wpList_copy_own rfl _ _ 58 58 rfl 5 Tryd.underlying58 (by kernel_rfl) g a (l.length - a) (cap - a) ⟨gs, os, none⟩ t.length c rfl rfl cur 5 HG.out (byteVs t) HN.out HS.out hcs (oneCell_bytes t) ?_)
  go_ret
  refine ⟨_, rfl, ?_, HC.out.2, .inl rfl⟩
  rw [HL.out]; exact HC.out.1

set_option maxHeartbeats 2000000 in
set_option maxRecDepth 100000 in
theorem put_grow (v : Value) (l : List UInt8) (a : Nat) (t : List UInt8) (gs os c : Nat) (w : World) (ht : 0 < t.length) (hown : w.ownsRow 0 5 1 v l.length (byteVs l)) (hl : l.length ≤ 16777216) (hm : a + t.length ≤ 16777216) (hlt : l.length < a + t.length) (hne : v.ownBlock ≠ some gs)
    (hsrc : ∀ j u, (byteVs t)[j]? = some u → w.cell? ((⟨gs, os, none⟩ : Addr).add j) = some u) :
    Calls Tryd.prog 52 #[v, .int .i64 (a : Int), .slice (some ⟨gs, os, none⟩) t.length c] w (PutPost v (putL l a t) w) := by
  obtain ⟨i0, hi, hz0, hz1, hz2⟩ := info_parts byte_info
  obtain ⟨v1, w1, hr, hown1, hg1, hat⟩ := run_append_own_zeros (P := Tryd.prog) w 58 3 58 5 i0 (.int .u8 0) .i64 .i64 Tryd.underlying58 Tryd.underlying3 hi hz0 hz1 hz2 rfl rfl v l.length (byteVs l) hown (a + t.length - l.length) (by omega) (by omega)
  have hgs : gs < w.heap.size := by
    obtain ⟨b, r, hb⟩ : ∃ b r, t = b :: r := by cases t with | nil => simp at ht | cons b r => exact ⟨b, r, rfl⟩
    have := hsrc 0 (.int .u8 (b.toNat : Int)) (by rw [hb]; simp [byteVs])
    exact Lib.lt_of_cell (by rw [Lib.add_plain] at this; exact this)
  have hsrc1 : ∀ j u, (byteVs t)[j]? = some u → w1.cell? ((⟨gs, os, none⟩ : Addr).add j) = some u := by
    intro j u hu
    have := hsrc j u hu
    rw [Lib.add_plain] at this ⊢
    exact hg1.cell this (fun e => hne e.symm)
  have e0 : byteVs l ++ List.replicate (a + t.length - l.length) (Value.int .u8 0) = byteVs (l ++ List.replicate (a + t.length - l.length) 0) := by simp [byteVs, List.map_append]
  have e1 : l.length + (a + t.length - l.length) = a + t.length := by omega
  rw [e0, e1] at hown1
  have hlen0 : (l ++ List.replicate (a + t.length - l.length) (0 : UInt8)).length = a + t.length := by rw [List.length_append, List.length_replicate]; omega
  obtain ⟨g, cap, cur, rfl, hg, hnc, hcm, hcz⟩ : ∃ g cap cur, v1 = .slice (some ⟨g, 0, none⟩) (a + t.length) cap ∧ w1.heap[g]? = some (.cells cur 5 (0, 0)) ∧ a + t.length ≤ cap ∧ cap ≤ maxLen ∧ cur.size = cap := by
    rcases hown1.2 with ⟨_, h⟩ | ⟨g, cap, cur, hv, _, hg, h1, h2, h3, _⟩
    · omega
    · exact ⟨g, cap, cur, hv, hg, h1, h2, by omega⟩
  have hc := copied hown1 hlen0 (Nat.le_refl _) cur hg
  have e2 : (l ++ List.replicate (a + t.length - l.length) (0 : UInt8)).take a ++ t ++ (l ++ List.replicate (a + t.length - l.length) (0 : UInt8)).drop (a + t.length) = putL l a t := rfl
  rw [e2] at hc
  have hcs : a + (byteVs t).length ≤ cur.size := by rw [byteVs_length]; omega
  have HC := Lib.hid hc
  have HS := Lib.hid hsrc1
  have HG := Lib.hid hg
  have HG1 := Lib.hid hg1
  have HA := Lib.hid hat
  have HN := Lib.hid (show (byteVs t).length = Nat.min t.length t.length by rw [byteVs_length]; simp only [Nat.min_def]; split <;> omega)
  have hlen : (putL l a t).length = a + t.length := by rw [putL_length]; omega
  have HL := Lib.hid hlen
  obtain ⟨ao, co, rfl⟩ : ∃ ao co, v = .slice ao l.length co := by
    rcases hown.2 with ⟨h, h2⟩ | ⟨g, cap, cur, hv, _⟩
    · exact ⟨none, 0, by rw [h, h2]⟩
    · exact ⟨_, _, hv⟩
  have hr' : (Builtin.append_ #[58, 3] 58 #[.slice ao l.length co, .int .i64 ((a : Int) + (t.length : Int) - (l.length : Int))]).run Tryd.prog w = .ok (.slice (some ⟨g, 0, none⟩) (a + t.length) cap) w1 := by
    rw [← hr]
    have e3 : (a : Int) + (t.length : Int) - (l.length : Int) = ((a + t.length - l.length : Nat) : Int) := by omega
    rw [e3]
  have HR := Lib.hid hr'
  unfold maxLen at hcm
  clear hc hsrc hown hg hlen hsrc1 hown1 hr hr' hg1 hat e0 e1 e2 hlen0 hi hz0 hz1 hz2 hcz
  go_enter Tryd.func52, Tryd.ntmps52
  go_wp2_with (first | (at_builtin; refine Lib.wpList_append_run _ rfl _ _ _ _ rfl _ _ rfl rfl _ _ HR.out ?_) | (refine wpList_copy_own rfl _ _ 58 58 rfl 5 Tryd.underlying58 (by kernel_rfl) g a t.length (cap - a) ⟨gs, os, none⟩ t.length c rfl rfl cur 5 HG.out (byteVs t) HN.out HS.out hcs (oneCell_bytes t) ?_))
  go_ret
  refine ⟨.slice (some ⟨g, 0, none⟩) (a + t.length) cap, rfl, ?_, ?_, ?_⟩
  · rw [HL.out]; exact HC.out.1
  · refine HG1.out.andThen HC.out.2 fun j hj => ?_
    cases hj
    rcases HA.out with h | h
    · exact .inr h.symm
    · simp only [Value.ownBlock, Option.some.injEq] at h
      exact .inl (by omega)
  · rcases HA.out with h | h
    · exact .inl h
    · exact .inr fun k hk => by rw [h] at hk; cases hk; exact Nat.le_refl _

theorem put_any (v : Value) (l : List UInt8) (a : Nat) (t : List UInt8) (gs os c : Nat) (w : World) (ht : 0 < t.length) (hown : w.ownsRow 0 5 1 v l.length (byteVs l)) (hl : l.length ≤ 16777216) (hm : a + t.length ≤ 16777216) (hne : v.ownBlock ≠ some gs)
    (hsrc : ∀ j u, (byteVs t)[j]? = some u → w.cell? ((⟨gs, os, none⟩ : Addr).add j) = some u) :
    Calls Tryd.prog 52 #[v, .int .i64 (a : Int), .slice (some ⟨gs, os, none⟩) t.length c] w (PutPost v (putL l a t) w) := by
  rcases Nat.lt_or_ge l.length (a + t.length) with h | h
  · exact put_grow v l a t gs os c w ht hown hl hm h hne hsrc
  · exact put_stay v l a t gs os c w ht hown (by omega) h hsrc
end Go.Proofs.YtjbcgahdiolhhaaDoor.D2
