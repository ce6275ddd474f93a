/- played, after, byteAt. -/
import Derived.Test.YtadnmoaemnajgaaSmall
import Derived.Test.YtadnmoaemnajgaaPlain
namespace Go.Proofs.Ytadnmoaemnajgaa
open Go.RowKit Go.Maps Go.ChangeMaps Go.MapKept
open Dp
attribute [local go_sem ↓] Go.wp_at_zero Go.wp_at_succ

theorem nums_of_src {w : World} {v : Value} {ks : List Int} (h : SrcIs w 1 v ks.length (intVs ks)) (hk : ∀ z ∈ ks, I64 z) : Nums w w v ks := by
  refine ⟨h, hk, fun ad n c hv hn => ?_⟩
  rcases h.2 with ⟨rfl, _⟩ | ⟨ad', cap, rfl, hc, _⟩
  · cases hv
  · cases hv
    cases ks with
    | nil => simp at hn
    | cons z zs =>
      have h0 := hc 0 (.int .i64 z) (by simp [intVs])
      have := Lib.lt_of_cell h0
      obtain ⟨bk, o, sp⟩ := ad
      revert this; unfold Addr.add; split <;> exact fun h => h
/-- The acts that a statement was called with. -/
structure Args (w0 : World) (a : Option Addr) (xs : List Act1) : Prop where
  at_ : ActsIn w0 a xs
  ok : ∀ x ∈ xs, x.Ok
theorem Args.get {w0 w : World} {a : Option Addr} {xs : List Act1} (h : Args w0 a xs) (hb : Below w0.heap.size w0 w) {i : Nat} {x : Act1} (hx : xs[i]? = some x) :
    ∃ b off va vc, a = some ⟨b, off, none⟩ ∧ ACells w b (off + i * 5) x (.slice va x.Keep.length vc) ∧ Nums w0 w (.slice va x.Keep.length vc) x.Keep ∧ x.Ok := by
  obtain ⟨b, off, vk, h1, h2, h3⟩ := h.at_.get hx
  have hk := h.ok x (List.mem_of_getElem? hx)
  obtain ⟨va, vc, rfl⟩ := src_form h3
  exact ⟨b, off, va, vc, h1, ⟨below_cell h2.c0 hb, below_cell h2.c1 hb, below_cell h2.c2 hb, below_cell h2.c3 hb, below_cell h2.c4 hb⟩, (nums_of_src h3 hk.Keep).to hb, hk⟩

set_option maxHeartbeats 2000000 in
set_option maxRecDepth 100000 in
theorem played_any {w0 : World} {ds : List (Nat × Dk)} (a : Option Addr) (cap : Nat) (xs : List Act1) (w : World) (hm : Mem w0 w ds) (ha : Args w0 a xs) (hf : xs.length ≤ 40 ∧ ∀ x ∈ xs, Few1 x) :
    Calls Try.prog 22 #[.slice a xs.length cap] w (NPost w0 ds (play new xs)) := by
  have HM := Lib.hid hm
  have HA := Lib.hid ha
  have HF := Lib.hid hf.2
  have hlen := hf.1
  clear hm ha hf
  go_enter Try.func22, Try.ntmps22
  go_wp2_with (go_at_call 10; refine (mem_new HM.out).mono ?_; rintro e w1 ⟨b, rfl, m⟩; have M := Lib.hid m; clear m)
  go_loopw [4] (fun i wr => ∃ k : Nat, k ≤ xs.length ∧ i = .int .i64 (k : Int) ∧ Hid (Mem w0 wr (ds ++ [(b, play new (xs.take k))]))) (fun i _ => xs.length - (intOf i).toNat)
  case atStart => exact ⟨0, Nat.zero_le _, rfl, M⟩
  case round =>
    obtain ⟨k, hk, rfl, MK⟩ := hrel
    by_cases hlt : k < xs.length
    · obtain ⟨x, hx⟩ : ∃ x, xs[k]? = some x := ⟨_, List.getElem?_eq_getElem hlt⟩
      obtain ⟨bb, off, va, vc, rfl, hc, hn, ho⟩ := HA.out.get MK.out.below hx
      obtain ⟨c0, c1, c2, c3, c4⟩ := hc
      have HX := Lib.hid hx
      have HN := Lib.hid hn
      have HO := Lib.hid ho
      clear hx hn ho
      have HC := Lib.hid (mem_do (i := ds.length) (b := b) (D := play new (xs.take k)) MK.out (by simp) x HO.out (HF.out x (List.mem_of_getElem? HX.out)) va vc HN.out)
      go_wp2_with (go_at_call 12; go_loud (refine HC.out.mono ?_); rintro e w3 ⟨rfl, m⟩; have M3 := Lib.hid m; clear m)
      go_roundw
      case rel =>
        refine ⟨k + 1, by omega, by go_num, ?_⟩
        rw [play_take HX.out]
        have := M3.out
        rw [List.set_append_right _ _ (Nat.le_refl _)] at this
        simp only [Nat.sub_self, List.set_cons_zero] at this
        exact Lib.hid this
      case measure => simp [intOf]; omega
    · obtain rfl : k = xs.length := by omega
      go_wp2
      go_ret
      have := MK.out
      rw [List.take_length] at this
      exact ⟨b, rfl, this⟩

/-- What a file is after a crash, of a copy. -/
def afterL (D : Dk) (ks : List Int) (f : Int) : List UInt8 × Int := ((D.crash ks).start).read f 0 16777216

theorem bs_get (l : List UInt8) (j : Nat) (h : j < (bs l).size) (c : UInt8) (hc : l[j]? = some c) : (bs l)[j]'h = c := by
  obtain ⟨hl, rfl⟩ := List.getElem?_eq_some_iff.1 hc
  rfl
theorem src_chg {w w' : World} {lab lab' : Nat → Nat} {id : Nat} {v : Value} {ks : List Int} (h : SrcIs w 1 v ks.length (intVs ks)) (k : Chg id lab lab' w w') (ho : ∀ ad n c, v = .slice (some ad) n c → 0 < n → lab ad.block < id ∨ id + 64 ≤ lab ad.block) : SrcIs w' 1 v ks.length (intVs ks) := by
  refine ⟨h.1, ?_⟩
  rcases h.2 with h2 | ⟨ad, cap, rfl, h4, h5⟩
  · exact .inl h2
  · refine .inr ⟨ad, cap, rfl, fun j u hj => ?_, h5⟩
    have h6 := h4 j u hj
    have hb : (ad.add j).block = ad.block := by cases ad; unfold Addr.add; split <;> rfl
    rw [World.cell?_of_block (w := w) (k.block _ (Lib.lt_of_cell h6) (by rw [hb]; exact ho ad _ _ rfl (by have := (List.getElem?_eq_some_iff.1 hj).1; rw [intVs_length] at this; omega)))]
    exact h6
theorem take_push {ds : List (Nat × Dk)} {p q r : Nat × Dk} : ((((ds ++ [p]).set ds.length q).set ds.length r)).take ds.length = ds := by
  simp

set_option maxHeartbeats 1000000 in
set_option maxRecDepth 100000 in
theorem after_low {w0 : World} {ds : List (Nat × Dk)} {i b : Nat} {D : Dk} {lab : Nat → Nat} (w : World) (hm : MemL w0 w lab ds) (hi : ds[i]? = some (b, D)) (hk : D.keep.length ≤ 60) (f : Int) (hf : I64 f) (va : Option Addr) (vc : Nat) (ks : List Int) (hl : ks.length ≤ 140737488355327)
    (hs : SrcIs w 1 (.slice va ks.length vc) ks.length (intVs ks)) (ho : ∀ ad n c, Value.slice va ks.length vc = .slice (some ad) n c → 0 < n → lab ad.block = 0 ∧ ad.block < w.heap.size) :
    Calls Try.prog 23 #[.pointer (some ⟨b, 0, none⟩), .int .i64 f, .slice va ks.length vc] w fun e w' => e = .returned (.tuple #[.string (bs (afterL D ks f).1), .bool ((afterL D ks f).2 == 0)]) ∧ Mem w0 w' ds := by
  obtain ⟨r, hr⟩ : ∃ r, ((D.crash ks).start).read f 0 16777216 = r := ⟨_, rfl⟩
  rw [show afterL D ks f = r from hr]
  have HR := Lib.hid hr
  clear hr
  have HM := Lib.hid hm
  have HC := Lib.hid (dg_copy (hm.at_ i _ hi) (64 * (ds.length + 1)) (by omega) (by show D.keep.length ≤ 1000000; omega))
  have HS := Lib.hid hs
  have HO := Lib.hid ho
  clear hm hi hk hs ho
  go_enter Try.func23, Try.ntmps23
  go_wp2_with (go_at_call 18; refine HC.out.mono ?_; rintro e w1 ⟨c, rfl, lab1, g1, k1⟩; refine Hid.out ?_)
  refine Lib.hid ?_
  have h1 := HM.out.push g1 k1
  have s1 := src_chg HS.out k1 (fun ad n c hv hn => .inl (by rw [(HO.out ad n c hv hn).1]; omega))
  have hget : (ds ++ [(c, D)])[ds.length]? = some (c, D) := by simp
  have HCR := Lib.hid (dg_crash (h1.at_ _ _ hget) _ ks s1 (fun ad n c hv hn => .inl (by rw [k1.labs _ (HO.out ad n c hv hn).2, (HO.out ad n c hv hn).1]; omega)) hl)
  have H1 := Lib.hid h1
  have HG := Lib.hid hget
  clear h1 s1 g1 k1 hget
  go_wp2_with (go_at_call 25; refine HCR.out.mono ?_; rintro e w2 ⟨rfl, lab2, g2, k2⟩; refine Hid.out ?_)
  refine Lib.hid ?_
  have h2 := H1.out.set HG.out g2 k2
  have hget : ((ds ++ [(c, D)]).set ds.length (c, D.crash ks))[ds.length]? = some (c, D.crash ks) := by simp
  have HST := Lib.hid (dg_start (h2.at_ _ _ hget))
  have H2 := Lib.hid h2
  have HG2 := Lib.hid hget
  clear h2 g2 k2 hget
  go_wp2_with (go_at_call 26; refine HST.out.mono ?_; rintro e w3 ⟨rfl, lab3, g3, k3⟩; refine Hid.out ?_)
  refine Lib.hid ?_
  have h3 := H2.out.set HG2.out g3 k3
  have hrd := dg_read g3 f 0 16777216 hf I64.zero ⟨by decide, by decide⟩
  rw [HR.out] at hrd
  have HRD := Lib.hid hrd
  have H3 := Lib.hid h3
  clear h3 g3 k3 hrd
  go_wp2_with (go_at_call 20; refine HRD.out.mono ?_; rintro e w4 ⟨rfl, hp⟩; refine Hid.out ?_)
  refine Lib.hid ?_
  have h4 := (H3.out.fresh (hp_below hp)).drop ds.length
  rw [take_push] at h4
  have H4 := Lib.hid h4
  clear h4 hp
  go_wp2
  go_ret2
  exact ⟨rfl, _, H4.out⟩

theorem after_arg {w0 : World} {ds : List (Nat × Dk)} {i b : Nat} {D : Dk} (w : World) (hm : Mem w0 w ds) (hi : ds[i]? = some (b, D)) (hk : D.keep.length ≤ 60) (f : Int) (hf : I64 f) (va : Option Addr) (vc : Nat) (ks : List Int) (hl : ks.length ≤ 140737488355327) (hs : Nums w0 w (.slice va ks.length vc) ks) :
    Calls Try.prog 23 #[.pointer (some ⟨b, 0, none⟩), .int .i64 f, .slice va ks.length vc] w fun e w' => e = .returned (.tuple #[.string (bs (afterL D ks f).1), .bool ((afterL D ks f).2 == 0)]) ∧ Mem w0 w' ds := by
  obtain ⟨lab, h⟩ := hm
  exact after_low w h hi hk f hf va vc ks hl hs.1 fun ad n c hv hn => by
    have h1 := hs.2.2 ad n c hv hn
    exact ⟨h.und.labs _ h1, Nat.lt_of_lt_of_le h1 h.und.below.size⟩
theorem after_new {w0 : World} {ds : List (Nat × Dk)} {i b : Nat} {D : Dk} (w : World) (hm : Mem w0 w ds) (hi : ds[i]? = some (b, D)) (hk : D.keep.length ≤ 60) (f : Int) (hf : I64 f) (ks : List Int) (hl : ks.length ≤ 140737488355327) :
    Calls Try.prog 23 #[.pointer (some ⟨b, 0, none⟩), .int .i64 f, .slice (some ⟨w.heap.size, 0, none⟩) ks.length ks.length] (w.alloc (.cells (intVs ks).toArray 3)) fun e w' => e = .returned (.tuple #[.string (bs (afterL D ks f).1), .bool ((afterL D ks f).2 == 0)]) ∧ Mem w0 w' ds := by
  obtain ⟨lab, h⟩ := hm
  exact after_low _ (h.fresh (below_alloc w _)) hi hk f hf _ _ ks hl (src_alloc w ks _) fun ad n c hv hn => by
    cases hv
    exact ⟨h.lo _ (Nat.le_refl _), by simp⟩

set_option maxHeartbeats 1000000 in
set_option maxRecDepth 100000 in
theorem byteAt_any (s : List UInt8) (n : Int) (w : World) (hs : s.length ≤ 140737488355327) (hn : I64 n) (h0 : 0 ≤ n) :
    Calls Try.prog 24 #[.string (bs s), .int .i64 n] w fun e w' => e = .returned (.int .u8 ((s.getD n.toNat 0).toNat : Int)) ∧ w = w' := by
  have hz := bs_size s
  have n2 := hn.2
  by_cases hlt : n < ((bs s).size : Int)
  · obtain ⟨k, rfl⟩ : ∃ k : Nat, n = (k : Int) := ⟨n.toNat, by omega⟩
    have hk : k < s.length := by omega
    have hks : k < (bs s).size := by omega
    obtain ⟨c, hc, hc2⟩ : ∃ c, (bs s)[k]'hks = c ∧ s.getD k 0 = c := ⟨_, bs_get _ _ hks _ (List.getElem?_eq_getElem hk), by rw [List.getD_eq_getElem?_getD, List.getElem?_eq_getElem hk]; rfl⟩
    rw [show ((k : Int)).toNat = k from rfl, hc2]
    clear hc2 hn
    go_enter Try.func24, Try.ntmps24
    go_wp2
    go_ret
    exact ⟨rfl, rfl⟩
  · have hg : s.getD n.toNat 0 = 0 := getD_out (by omega)
    rw [hg]
    clear hg hn
    go_enter Try.func24, Try.ntmps24
    go_wp2
    go_ret
    exact ⟨rfl, rfl⟩
end Go.Proofs.Ytadnmoaemnajgaa
