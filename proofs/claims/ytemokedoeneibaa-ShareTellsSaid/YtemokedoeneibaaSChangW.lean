/- The walk of ShareChanges. -/
import Derived.Test.YtemokedoeneibaaSSumsW
namespace Go.Proofs.Ytemokedoeneibaa
open Go.RowKit Go.Maps Go.ChangeMaps Go.MapKept
open Sp
attribute [local go_sem ↓] Go.wp_at_zero Go.wp_at_succ

theorem row_set {n i : Nat} {f : Nat → Int} (y : Int) : (row n f).set i ((i : Int) + 1, y) = row n fun j => if j = i then y else f j := by
  apply List.ext_getElem?
  intro j
  rw [List.getElem?_set, row_len]
  by_cases hj : j < n
  · by_cases e : i = j
    · subst e; rw [if_pos rfl, if_pos hj, row_get hj, if_pos rfl]
    · rw [if_neg e, row_get hj, row_get hj, if_neg (fun q => e q.symm)]
  · rw [List.getElem?_eq_none (l := row n fun j => if j = i then y else f j) (by rw [row_len]; omega)]
    by_cases e : i = j
    · subst e; rw [if_pos rfl, if_neg hj]
    · rw [if_neg e, List.getElem?_eq_none (by rw [row_len]; omega)]
theorem bent_set {s seed d : Int} {k n i : Nat} : (sp s seed k n).set i ((i : Int) + 1, (ev (cf s seed k) ((i : Int) + 1) % P + d) % P) = bent s seed k n i d := by
  rw [sp_row, row_set]
  unfold bent
  congr 1
  funext j
  by_cases e : j = i
  · subst e; simp
  · rw [if_neg e, if_neg e]
theorem rest_parts {s seed : Int} {k n i : Nat} : (sp s seed k n).take i ++ (sp s seed k n).drop (i + 1) = rest s seed k n i := by
  unfold rest; rw [List.eraseIdx_eq_take_drop_succ]
/-- What the two calls of Join answer. -/
def Says (s d : Int) (k n : Nat) (j r : Int × Int) : Prop :=
  (k < n ∧ r = (s, 0) ∧ (d = 0 ∧ j = (s, 0) ∨ d ≠ 0 ∧ j = (0, 18))) ∨ (k = n ∧ r = (0, 20) ∧ (d = 0 ∧ j = (s, 0) ∨ d ≠ 0 ∧ ∃ v, j = (v, 0) ∧ v ≠ s))
theorem says {s seed d : Int} {k n i : Nat} (h1 : 1 ≤ k) (h2 : k ≤ n) (hn : n ≤ 20) (hi : i < n) (hs : 0 ≤ s ∧ s < P) (hd : 0 ≤ d ∧ d < P) : Says s d k n (join (bent s seed k n i d) (k : Int)) (join (rest s seed k n i) (k : Int)) := by
  by_cases hk : k < n
  · refine .inl ⟨hk, rest_more h1 hk hn hi hs, ?_⟩
    by_cases h0 : d = 0
    · subst h0; exact .inl ⟨rfl, bent_none h1 h2 hn hs⟩
    · exact .inr ⟨h0, bent_more h1 hk hn hi ⟨by omega, hd.2⟩⟩
  · obtain rfl : k = n := by omega
    refine .inr ⟨rfl, rest_same h1 hn hi, ?_⟩
    by_cases h0 : d = 0
    · subst h0; exact .inl ⟨rfl, bent_none h1 h2 hn hs⟩
    · exact .inr ⟨h0, bent_same h1 hn hi ⟨by omega, hd.2⟩⟩
theorem push_run {w0 w : World} {v u : Value} {ks ps : List Pt} (hb : Below w0.heap.size w0 w) (ho : w.ownsRow 0 39 2 v ks.length (ptVs ks)) (hv : ∀ x, v.ownBlock = some x → w0.heap.size ≤ x) (hu : SharesAt w u ps) (hn : ks.length + ps.length ≤ 1000) :
    ∃ a c w', (Builtin.append_ #[22, 22] 22 #[v, u]).run Try.prog w = .ok (.slice a (ks.length + ps.length) c) w' ∧ SharesAt w' (.slice a (ks.length + ps.length) c) (ks ++ ps) ∧ Below w0.heap.size w0 w' := by
  obtain ⟨a, c, w', h1, h2, h3, h4⟩ := run_push _ v u ks ps ho hu (by omega)
  exact ⟨a, c, w', h1, SharesAt.of_own h2, below_grown hb h3 hv⟩
theorem SharesAt.drop_if {w : World} {b off n cap : Nat} {l : List Pt} (h : SharesAt w (.slice (some ⟨b, off, none⟩) n cap) l) (hl : l.length = n) (hc : n ≤ cap) {k : Nat} (hk : k ≤ n) :
    SharesAt w (.slice (if cap = k then some ⟨b, off, none⟩ else some ⟨b, off + k * 2, none⟩) (n - k) (cap - k)) (l.drop k) := by
  by_cases e : cap = k
  · rw [if_pos e, List.drop_of_length_le (by omega), show n - k = 0 by omega, show cap - k = 0 by omega]
    exact ⟨_, 0, rfl, ⟨Nat.le_refl _, fun h => by cases h⟩, fun k p hk => by simp at hk⟩
  · rw [if_neg e]
    have := h.drop (k := k) (by omega)
    rwa [hl] at this
section
variable {w : World}
set_option maxHeartbeats 4000000 in
set_option maxRecDepth 100000 in
theorem changes_walk (secret : Int) {K N A : Nat} (seed by_ : Int) (hK : K ≤ 255) (hN : N ≤ 255) (hA : A ≤ 255) :
    Calls Try.prog 6 #[.int .i64 secret, .int .u8 (K : Int), .int .u8 (N : Int), .int .i64 seed, .int .u8 (A : Int), .int .i64 by_] w fun e w' => e = .returned (.bool true) ∧ Below w.heap.size w w' := by
  have hno := need_ok K N
  have hsr := mod_in secret
  have hdr := mod_in by_
  have HNum := Lib.hid (fun w => numbers_any (w := w) secret K N hK hN)
  have HMod := Lib.hid (fun w => g_mod (w := w) by_)
  obtain ⟨s, hs⟩ : ∃ s, s = secret % P := ⟨_, rfl⟩
  obtain ⟨d, hd⟩ : ∃ d, d = by_ % P := ⟨_, rfl⟩
  rw [← hs] at HNum hsr
  rw [← hd] at HMod hdr
  obtain ⟨k, hk⟩ : ∃ k, k = need K N := ⟨_, rfl⟩
  obtain ⟨n, hn⟩ : ∃ n, n = many N := ⟨_, rfl⟩
  have HS := fun w => g_split (w := w) s (need K N : Int) (many N : Int) seed
  rw [split_num s seed K N hsr] at HS
  rw [← hk, ← hn] at HS HNum hno
  obtain ⟨i, hi⟩ : ∃ i, i = A % n := ⟨_, rfl⟩
  have hil : i < n := by rw [hi]; exact Nat.mod_lt _ (by omega)
  have hit : (A : Int) % (n : Int) = (i : Int) := by rw [hi]; omega
  have hsay := says (seed := seed) hno.1 hno.2.1 hno.2.2 hil hsr hdr
  have hfr := mod_in (ev (cf s seed k) ((i : Int) + 1))
  have hget := sp_get (secret := s) (seed := seed) (k := k) hil
  rw [← bent_set, ← rest_parts] at hsay
  have hlen := sp_len s seed k n
  obtain ⟨f, hf⟩ : ∃ f, f = ev (cf s seed k) ((i : Int) + 1) % P := ⟨_, rfl⟩
  rw [← hf] at hsay hfr hget
  obtain ⟨L, hL⟩ : ∃ L, L = sp s seed k n := ⟨_, rfl⟩
  rw [← hL] at HS hsay hget hlen
  have HS := Lib.hid HS
  have HLen := Lib.hid hlen
  have HGet := Lib.hid hget
  have hn0 : (n : Int) ≠ 0 := by omega
  have HX := Lib.hid (fun w => g_mod (w := w) (f + d))
  have hlf : f < 2147483647 := by have := P_eq; omega
  have hld : d < 2147483647 := by have := P_eq; omega
  obtain ⟨y, hy⟩ : ∃ y, y = (f + d) % P := ⟨_, rfl⟩
  rw [← hy] at HX hsay
  have HSay := Lib.hid hsay
  clear hs hd hk hn hi hf hL hlen hget hsay hy
  go_enter Try.func6, Try.ntmps6
  go_wp2_with (go_at_call 7; refine (small_any _).mono ?_; rintro e w1 ⟨rfl, m1⟩; refine Hid.out ?_)
  refine Lib.hid ?_
  have M1 := Lib.hid m1
  clear m1
  go_wp2_with (go_at_call 15; refine (HNum.out _).mono ?_; rintro e w2 ⟨rfl, m2⟩; refine Hid.out ?_)
  refine Lib.hid ?_
  have M2 := Lib.hid (M1.out.trans (m2.mono M1.out.size))
  clear m2 M1
  go_wp2_with (go_at_call 16; refine (HMod.out _).mono ?_; rintro e w3 ⟨rfl, rfl⟩; refine Hid.out ?_)
  refine Lib.hid ?_
  go_wp2_with (go_at_call 8; refine (HS.out _).mono ?_; rintro e w5 ⟨v5, rfl, hv5, m5⟩; refine Hid.out ?_)
  refine Lib.hid ?_
  have M5 := Lib.hid (M2.out.trans (m5.mono M2.out.size))
  have HV5 := Lib.hid hv5
  obtain ⟨b5, o5, c5, h5, q5, _⟩ := hv5.form (by rw [HLen.out]; omega)
  rw [HLen.out] at h5 q5
  subst h5
  obtain ⟨a6, c6, w6, r6, ow6, b6, n6⟩ := copy_run HV5.out (by rw [HLen.out]; omega)
  rw [HLen.out] at r6 ow6 n6
  obtain ⟨g6, z6, hg6⟩ := own_some ow6 (by omega)
  rw [hg6] at r6 ow6 n6
  have hge := n6 g6 rfl
  have e1 := own_at ow6 (pt_at HGet.out).2
  have f1 := own_fz ow6 (i * 2 + 1)
  have ow7 := own_set ow6 (i * 2 + 1) (.int .i64 y)
  rw [← pt_set_y HGet.out] at ow7
  have s7 := SharesAt.of_own ow7
  have b7 : Below w5.heap.size w5 (w6.setCell ⟨g6, i * 2 + 1, none⟩ (.int .i64 y)) := ⟨b6.os, b6.tape, b6.output, by rw [set_size]; exact b6.size, fun x hx => by rw [set_other (by show x ≠ g6; omega)]; exact b6.block x hx⟩
  have R6 := Lib.hid r6
  have S7 := Lib.hid s7
  have B7 := Lib.hid b7
  clear hv5 m5 M2 ow6 b6 n6 ow7 s7 b7 hge r6
  go_wp2_with (at_builtin; refine Hid.out ?_)
  refine Lib.hid ?_
  refine Lib.wpList_append_run _ rfl _ _ _ _ rfl _ _ rfl rfl _ _ R6.out ?_
  go_wp2_with (go_at_call 16; refine (HX.out _).mono ?_; rintro e w8 ⟨rfl, rfl⟩; refine Hid.out ?_)
  refine Lib.hid ?_
  have HJ := g_join (k := (k : Int)) S7.out (by rw [List.length_set, HLen.out]; omega)
  have HJ := Lib.hid HJ
  obtain ⟨j, hj⟩ : ∃ j, j = join (L.set i ((i : Int) + 1, y)) (k : Int) := ⟨_, rfl⟩
  rw [← hj] at HJ HSay
  clear hj
  go_wp2_with (go_at_call 10; refine (HJ.out).mono ?_; rintro e w8 ⟨rfl, m8⟩; refine Hid.out ?_)
  refine Lib.hid ?_
  have M8 := Lib.hid (B7.out.trans (m8.mono B7.out.size))
  clear m8 HJ B7 R6 S7 e1 f1
  have hv8 := (HV5.out.keep M8.out).keep (below_drew w8)
  have st := hv8.take (k := i) (by rw [HLen.out]; omega)
  obtain ⟨a10, c10, w10, r10, o10, b10, n10⟩ := copy_run st (by rw [List.length_take, HLen.out]; omega)
  have hti : (L.take i).length = i := by rw [List.length_take, HLen.out]; omega
  have hic : i ≤ c5 := by omega
  have hic2 : i + 1 ≤ c5 := by omega
  have hw1 : IntKind.i64.wrap ((i : Int) + 1) = (i : Int) + 1 := by rw [IntKind.wrap_i64]; omega
  have hdl : (L.drop (i + 1)).length = n - (i + 1) := by rw [List.length_drop, HLen.out]
  have sd := (hv8.keep b10).drop_if HLen.out q5 (k := i + 1) (by omega)
  obtain ⟨Z, hZ⟩ : ∃ Z, Z = (if c5 = i + 1 then some ⟨b5, o5, none⟩ else some ⟨b5, o5 + (i + 1) * 2, none⟩ : Option Addr) := ⟨_, rfl⟩
  rw [← hZ] at sd
  have HZ := Lib.hid hZ.symm
  have hsum : (L.take i).length + (L.drop (i + 1)).length = n - 1 := by rw [hti, hdl]; omega
  obtain ⟨a11, c11, w11, r11, s11, b11⟩ := push_run b10 o10 n10 sd (by omega)
  rw [hsum] at r11 s11
  rw [hti] at r10 r11
  have HK := g_join (k := (k : Int)) s11 (by rw [List.length_append, hsum]; omega)
  obtain ⟨r, hr⟩ : ∃ r, r = join (L.take i ++ L.drop (i + 1)) (k : Int) := ⟨_, rfl⟩
  rw [← hr] at HK HSay
  have R10 := Lib.hid r10
  have R11 := Lib.hid r11
  have HK := Lib.hid HK
  have B11 := Lib.hid (M8.out.trans (((below_drew w8).trans b11).mono M8.out.size))
  have S0 : True := trivial
  have HI := Lib.hid (show 0 ≤ (i : Int) + 1 ∧ (i : Int) + 1 ≤ (n : Int) by omega)
  clear r10 r11 hZ hsum hti hdl sd s11 hr hv8 st o10 b10 n10 b11
  go_wp2
  refine region_till 0 (fun _ => True) (by kernel_rfl) ?_
  refine till_take 1 40 false (v := ?v1) (by kernel_rfl) (by kernel_rfl) (by kernel_rfl) (by kernel_rfl) (by kernel_rfl) (fun _ _ _ h => h) ?hw1 S0 ?hy1 ?rest1
  case hw1 => (simp only [List.getElem?_toArray, List.getElem?_cons_zero, List.getElem?_cons_succ, Option.elim]; rfl)
  case hy1 => (simp only [List.getElem?_toArray, List.getElem?_cons_zero, List.getElem?_cons_succ, Option.elim]; intro wx _; go_simp; with_reducible rfl)
  simp only [dstOf, List.getElem?_toArray, List.getElem?_cons_zero, List.getElem?_cons_succ, Option.bind, Act.put, List.setIfInBounds_toArray, List.set_cons_zero, List.set_cons_succ]
  refine till_take 2 40 false (v := ?v2) (by kernel_rfl) (by kernel_rfl) (by kernel_rfl) (by kernel_rfl) (by kernel_rfl) (fun _ _ _ h => h) ?hw2 S0 ?hy2 ?rest2
  case hw2 => (simp only [List.getElem?_toArray, List.getElem?_cons_zero, List.getElem?_cons_succ, Option.elim]; rfl)
  case hy2 => (simp only [List.getElem?_toArray, List.getElem?_cons_zero, List.getElem?_cons_succ, Option.elim]; intro wx _; go_simp; with_reducible rfl)
  simp only [dstOf, List.getElem?_toArray, List.getElem?_cons_zero, List.getElem?_cons_succ, Option.bind, Act.put, List.setIfInBounds_toArray, List.set_cons_zero, List.set_cons_succ]
  refine till_take 3 40 false (v := ?v3) (by kernel_rfl) (by kernel_rfl) (by kernel_rfl) (by kernel_rfl) (by kernel_rfl) (fun _ _ _ h => h) ?hw3 S0 ?hy3 ?rest3
  case hw3 => (simp only [List.getElem?_toArray, List.getElem?_cons_zero, List.getElem?_cons_succ, Option.elim]; rfl)
  case hy3 => (simp only [List.getElem?_toArray, List.getElem?_cons_zero, List.getElem?_cons_succ, Option.elim]; intro wx _; go_simp; with_reducible rfl)
  simp only [dstOf, List.getElem?_toArray, List.getElem?_cons_zero, List.getElem?_cons_succ, Option.bind, Act.put, List.setIfInBounds_toArray, List.set_cons_zero, List.set_cons_succ]
  refine till_take 5 40 false (v := ?v5) (by kernel_rfl) (by kernel_rfl) (by kernel_rfl) (by kernel_rfl) (by kernel_rfl) (fun _ _ _ h => h) ?hw5 S0 ?hy5 ?rest5
  case hw5 => (simp only [List.getElem?_toArray, List.getElem?_cons_zero, List.getElem?_cons_succ, Option.elim]; rfl)
  case hy5 => (simp only [List.getElem?_toArray, List.getElem?_cons_zero, List.getElem?_cons_succ, Option.elim]; intro wx _; go_simp; with_reducible rfl)
  simp only [dstOf, List.getElem?_toArray, List.getElem?_cons_zero, List.getElem?_cons_succ, Option.bind, Act.put, List.setIfInBounds_toArray, List.set_cons_zero, List.set_cons_succ]
  refine till_take 6 40 false (v := ?v6) (by kernel_rfl) (by kernel_rfl) (by kernel_rfl) (by kernel_rfl) (by kernel_rfl) (fun _ _ _ h => h) ?hw6 S0 ?hy6 ?rest6
  case hw6 => (simp only [List.getElem?_toArray, List.getElem?_cons_zero, List.getElem?_cons_succ, Option.elim]; rfl)
  case hy6 => (simp only [List.getElem?_toArray, List.getElem?_cons_zero, List.getElem?_cons_succ, Option.elim]; intro wx _; go_simp; with_reducible rfl)
  simp only [dstOf, List.getElem?_toArray, List.getElem?_cons_zero, List.getElem?_cons_succ, Option.bind, Act.put, List.setIfInBounds_toArray, List.set_cons_zero, List.set_cons_succ]
  refine till_take 7 40 false (v := ?v7) (by kernel_rfl) (by kernel_rfl) (by kernel_rfl) (by kernel_rfl) (by kernel_rfl) (fun _ _ _ h => h) ?hw7 S0 ?hy7 ?rest7
  case hw7 => (simp only [List.getElem?_toArray, List.getElem?_cons_zero, List.getElem?_cons_succ, Option.elim]; rfl)
  case hy7 => (simp only [List.getElem?_toArray, List.getElem?_cons_zero, List.getElem?_cons_succ, Option.elim]; intro wx _; go_simp; with_reducible rfl)
  simp only [dstOf, List.getElem?_toArray, List.getElem?_cons_zero, List.getElem?_cons_succ, Option.bind, Act.put, List.setIfInBounds_toArray, List.set_cons_zero, List.set_cons_succ]
  refine till_take 8 40 false (v := ?v8) (by kernel_rfl) (by kernel_rfl) (by kernel_rfl) (by kernel_rfl) (by kernel_rfl) (fun _ _ _ h => h) ?hw8 S0 ?hy8 ?rest8
  case hw8 => (simp only [List.getElem?_toArray, List.getElem?_cons_zero, List.getElem?_cons_succ, Option.elim]; rfl)
  case hy8 => (simp only [List.getElem?_toArray, List.getElem?_cons_zero, List.getElem?_cons_succ, Option.elim]; intro wx _; go_simp; rw [if_pos HI.out, HZ.out]; try with_reducible rfl)
  simp only [dstOf, List.getElem?_toArray, List.getElem?_cons_zero, List.getElem?_cons_succ, Option.bind, Act.put, List.setIfInBounds_toArray, List.set_cons_zero, List.set_cons_succ]
  refine till_take 10 40 false (v := ?v10) (by kernel_rfl) (by kernel_rfl) (by kernel_rfl) (by kernel_rfl) (by kernel_rfl) (fun _ _ _ h => h) ?hw10 S0 ?hy10 ?rest10
  case hw10 => (simp only [List.getElem?_toArray, List.getElem?_cons_zero, List.getElem?_cons_succ, Option.elim]; rfl)
  case hy10 => (simp only [List.getElem?_toArray, List.getElem?_cons_zero, List.getElem?_cons_succ, Option.elim]; intro wx _; go_simp; with_reducible rfl)
  simp only [dstOf, List.getElem?_toArray, List.getElem?_cons_zero, List.getElem?_cons_succ, Option.bind, Act.put, List.setIfInBounds_toArray, List.set_cons_zero, List.set_cons_succ]
  refine till_step 0 (by kernel_rfl) (by kernel_rfl) (fun K hK => ?_)
  simp only [List.getElem?_toArray, List.getElem?_cons_zero, Option.elim]
  rw [if_pos (by rfl)]
  go_simp
  refine hK.out _ _ ?_
  clear hK K
  try simp only [Act.put, List.setIfInBounds_toArray, List.set_cons_zero, List.set_cons_succ]
  refine till_step 4 (by kernel_rfl) (by kernel_rfl) (fun K hK => ?_)
  simp only [List.getElem?_toArray, List.getElem?_cons_zero, List.getElem?_cons_succ, Option.elim]
  rw [if_pos (by rfl)]
  refine Lib.wp_append_run _ (.tmp 79) (.tmp 82) 22 22 rfl _ _ rfl rfl _ _ R10.out ?_
  refine hK.out _ _ ?_
  clear hK K
  try simp only [Act.put, List.setIfInBounds_toArray, List.set_cons_zero, List.set_cons_succ]
  refine till_step 9 (by kernel_rfl) (by kernel_rfl) (fun K hK => ?_)
  simp only [List.getElem?_toArray, List.getElem?_cons_zero, List.getElem?_cons_succ, Option.elim]
  rw [if_pos (by rfl)]
  refine Lib.wp_append_run _ (.tmp 83) (.tmp 87) 22 22 rfl _ _ rfl rfl _ _ R11.out ?_
  refine hK.out _ _ ?_
  clear hK K
  try simp only [Act.put, List.setIfInBounds_toArray, List.set_cons_zero, List.set_cons_succ]
  refine till_step 11 (by kernel_rfl) (by kernel_rfl) (fun K hK => ?_)
  simp only [List.getElem?_toArray, List.getElem?_cons_zero, List.getElem?_cons_succ, Option.elim]
  rw [if_pos (by rfl)]
  go_simp
  go_at_call 10
  refine (HK.out).mono ?_
  rintro e w12 ⟨rfl, m12⟩
  refine hK.out _ _ ?_
  clear hK K
  try simp only [Act.put, List.setIfInBounds_toArray, List.set_cons_zero, List.set_cons_succ]
  have M12 := Lib.hid (B11.out.trans (m12.mono B11.out.size))
  clear m12 HK
  refine till_late 12 (v := ?v12) (by kernel_rfl) (by kernel_rfl) (by kernel_rfl) (by kernel_rfl) (fun _ _ _ h => h) (by kernel_rfl) ?hw12 ?hy12 ?rest12
  case hw12 => (simp only [List.getElem?_toArray, List.getElem?_cons_zero, List.getElem?_cons_succ, Option.elim]; rfl)
  case hy12 => (simp only [List.getElem?_toArray, List.getElem?_cons_zero, List.getElem?_cons_succ, Option.elim]; intro wx; go_simp; with_reducible rfl)
  simp only [dstOf, List.getElem?_toArray, List.getElem?_cons_zero, List.getElem?_cons_succ, Option.bind, Act.put, List.setIfInBounds_toArray, List.set_cons_zero, List.set_cons_succ]
  refine till_late 13 (v := ?v13) (by kernel_rfl) (by kernel_rfl) (by kernel_rfl) (by kernel_rfl) (fun _ _ _ h => h) (by kernel_rfl) ?hw13 ?hy13 ?rest13
  case hw13 => (simp only [List.getElem?_toArray, List.getElem?_cons_zero, List.getElem?_cons_succ, Option.elim]; rfl)
  case hy13 => (simp only [List.getElem?_toArray, List.getElem?_cons_zero, List.getElem?_cons_succ, Option.elim]; intro wx; go_simp; with_reducible rfl)
  simp only [dstOf, List.getElem?_toArray, List.getElem?_cons_zero, List.getElem?_cons_succ, Option.bind, Act.put, List.setIfInBounds_toArray, List.set_cons_zero, List.set_cons_succ]
  refine till_late 14 (v := ?v14) (by kernel_rfl) (by kernel_rfl) (by kernel_rfl) (by kernel_rfl) (fun _ _ _ h => h) (by kernel_rfl) ?hw14 ?hy14 ?rest14
  case hw14 => (simp only [List.getElem?_toArray, List.getElem?_cons_zero, List.getElem?_cons_succ, Option.elim]; rfl)
  case hy14 => (simp only [List.getElem?_toArray, List.getElem?_cons_zero, List.getElem?_cons_succ, Option.elim]; intro wx; go_simp; with_reducible rfl)
  simp only [dstOf, List.getElem?_toArray, List.getElem?_cons_zero, List.getElem?_cons_succ, Option.bind, Act.put, List.setIfInBounds_toArray, List.set_cons_zero, List.set_cons_succ]
  refine till_late 15 (v := ?v15) (by kernel_rfl) (by kernel_rfl) (by kernel_rfl) (by kernel_rfl) (fun _ _ _ h => h) (by kernel_rfl) ?hw15 ?hy15 ?rest15
  case hw15 => (simp only [List.getElem?_toArray, List.getElem?_cons_zero, List.getElem?_cons_succ, Option.elim]; rfl)
  case hy15 => (simp only [List.getElem?_toArray, List.getElem?_cons_zero, List.getElem?_cons_succ, Option.elim]; intro wx; go_simp; with_reducible rfl)
  simp only [dstOf, List.getElem?_toArray, List.getElem?_cons_zero, List.getElem?_cons_succ, Option.bind, Act.put, List.setIfInBounds_toArray, List.set_cons_zero, List.set_cons_succ]
  refine till_late 16 (v := ?v16) (by kernel_rfl) (by kernel_rfl) (by kernel_rfl) (by kernel_rfl) (fun _ _ _ h => h) (by kernel_rfl) ?hw16 ?hy16 ?rest16
  case hw16 => (simp only [List.getElem?_toArray, List.getElem?_cons_zero, List.getElem?_cons_succ, Option.elim]; rfl)
  case hy16 => (simp only [List.getElem?_toArray, List.getElem?_cons_zero, List.getElem?_cons_succ, Option.elim]; intro wx; go_simp; with_reducible rfl)
  simp only [dstOf, List.getElem?_toArray, List.getElem?_cons_zero, List.getElem?_cons_succ, Option.bind, Act.put, List.setIfInBounds_toArray, List.set_cons_zero, List.set_cons_succ]
  refine till_end (by kernel_rfl) ?_ _
  have MW := Lib.hid (M5.out.trans (M12.out.mono M5.out.size))
  obtain ⟨j1, j2⟩ := j
  obtain ⟨r1, r2⟩ := r
  have hsay := HSay.out
  unfold Says at hsay
  clear HSay R10 R11
  rcases hsay with ⟨hkn, hr, ⟨h0, hj⟩ | ⟨h0, hj⟩⟩ | ⟨hkn, hr, ⟨h0, hj⟩ | ⟨h0, v, hj, hv⟩⟩
  · cases hr; cases hj
    go_wp2
    go_ret
    exact ⟨rfl, MW.out⟩
  · cases hr; cases hj
    go_wp2
    go_ret
    exact ⟨rfl, MW.out⟩
  · cases hr; cases hj
    have hnk : ¬ (k : Int) < (n : Int) := by omega
    go_wp2
    go_ret
    exact ⟨rfl, MW.out⟩
  · cases hr; cases hj
    have hnk : ¬ (k : Int) < (n : Int) := by omega
    go_wp2
    go_ret
    exact ⟨ret_bool (bne_iff_ne.2 hv), MW.out⟩
end
end Go.Proofs.Ytemokedoeneibaa
