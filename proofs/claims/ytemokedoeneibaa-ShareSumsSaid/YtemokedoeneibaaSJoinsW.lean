/- The walk of ShareJoins. -/
import Derived.Test.YtemokedoeneibaaSChosen
namespace Go.Proofs.Ytemokedoeneibaa
open Go.RowKit Go.Maps Go.ChangeMaps Go.MapKept
open Sp
attribute [local go_sem ↓] Go.wp_at_zero Go.wp_at_succ

theorem SharesAt.slice {w : World} {v : Value} {l : List Pt} {n : Nat} (h : SharesAt w v l) (hn : l.length = n) : ∃ a c, v = .slice a n c := by
  obtain ⟨a, c, rfl, _⟩ := h
  exact ⟨a, c, by rw [hn]⟩
theorem split_num (s seed : Int) (K N : Nat) (hs : 0 ≤ s ∧ s < P) : split s (need K N : Int) (many N : Int) seed = (sp s seed (need K N) (many N), 0) := by
  have h := need_ok K N
  exact split_yes ⟨decide_eq_true hs, decide_eq_true (by omega), by omega, by omega⟩
open Classical in
theorem fitsB_iff {l : List Pt} {k x s : Int} (h : Fits l k x ↔ x = s) : fitsB l k x = (x == s) := by
  unfold fitsB
  by_cases e : x = s
  · rw [decide_eq_true (h.2 e)]; simp [e]
  · rw [decide_eq_false (fun q => e (h.1 q))]; simp [e]
open Classical in
theorem fitsB_yes {l : List Pt} {k x : Int} (h : Fits l k x) : fitsB l k x = true := decide_eq_true h
section
variable {w : World}
set_option maxHeartbeats 2000000 in
set_option maxRecDepth 100000 in
theorem joins_walk {u : Value} {o : List Int} (secret : Int) {K N : Nat} (seed other : Int) (hK : K ≤ 255) (hN : N ≤ 255) (hu : BytesAt w u o) :
    Calls Try.prog 4 #[.int .i64 secret, .int .u8 (K : Int), .int .u8 (N : Int), .int .i64 seed, u, .int .i64 other] w fun e w' => e = .returned (.bool true) ∧ Below w.heap.size w w' := by
  have HU := Lib.hid hu
  obtain ⟨a, cap, rfl, _⟩ := hu.form
  by_cases hl : 30 < o.length
  · have hl2 : (30 : Int) < (o.length : Int) := by omega
    go_enter Try.func4, Try.ntmps4
    go_wp2_with (go_at_call 7; refine (small_any _).mono ?_; rintro e w1 ⟨rfl, m1⟩; refine Hid.out ?_)
    refine Lib.hid ?_
    have M1 := Lib.hid m1
    clear m1
    go_wp2
    go_ret
    exact ⟨rfl, M1.out⟩
  · have hl2 : ¬ (30 : Int) < (o.length : Int) := by omega
    have hno := need_ok K N
    have hsr := mod_in secret
    have hxr := mod_in other
    have HNum := Lib.hid (fun w => numbers_any (w := w) secret K N hK hN)
    have HMod := Lib.hid (fun w => g_mod (w := w) other)
    obtain ⟨s, hs⟩ : ∃ s, s = secret % P := ⟨_, rfl⟩
    obtain ⟨x, hx⟩ : ∃ x, x = other % P := ⟨_, rfl⟩
    rw [← hs] at HNum hsr
    rw [← hx] at HMod hxr
    obtain ⟨k, hk⟩ : ∃ k, k = need K N := ⟨_, rfl⟩
    obtain ⟨n, hn⟩ : ∃ n, n = many N := ⟨_, rfl⟩
    have HS := fun w => g_split (w := w) s (need K N : Int) (many N : Int) seed
    rw [split_num s seed K N hsr] at HS
    rw [← hk, ← hn] at HS HNum hno
    have HP := Lib.hid (fun (m : List Pt) (h1 : m.Nodup) (h2 : ∀ q ∈ m, q ∈ sp s seed k n) => (⟨some_wrong hno.2.2 hno.1 hno.2.1 h1 h2, fun h3 => some_join hno.2.2 hno.1 hno.2.1 h1 h2 h3 hsr⟩ : wrong m (k : Int) = 0 ∧ (k ≤ m.length → join m k = (s, 0) ∧ ∀ x, 0 ≤ x ∧ x < P → (Fits m k x ↔ x = s))))
    have hlen := sp_len s seed k n
    obtain ⟨L, hL⟩ : ∃ L, L = sp s seed k n := ⟨_, rfl⟩
    rw [← hL] at HS HP hlen
    have HS := Lib.hid HS
    have HLen := Lib.hid hlen
    clear hs hx hk hn hL hlen
    go_enter Try.func4, Try.ntmps4
    go_wp2_with (go_at_call 7; refine (small_any _).mono ?_; rintro e w1 ⟨rfl, m1⟩; refine Hid.out ?_)
    refine Lib.hid ?_
    have M1 := Lib.hid m1
    clear m1
    go_wp2_with (go_at_call 15; refine (HNum.out _).mono ?_; rintro e w2 ⟨rfl, m2⟩; refine Hid.out ?_)
    refine Lib.hid ?_
    have M2 := Lib.hid (M1.out.trans (m2.mono M1.out.size))
    clear m2 M1
    go_wp2_with (go_at_call 16; refine (HMod.out _).mono ?_; rintro e w3 ⟨rfl, rfl⟩; refine Hid.out ?_)
    refine Lib.hid ?_
    go_wp2_with (go_at_call 8; refine (HS.out _).mono ?_; rintro e w4 ⟨v4, rfl, hv4, m4⟩; refine Hid.out ?_)
    refine Lib.hid ?_
    have M4 := Lib.hid (M2.out.trans (m4.mono M2.out.size))
    have HV4 := Lib.hid hv4
    obtain ⟨a4, c4, rfl⟩ := SharesAt.slice hv4 HLen.out
    clear hv4 m4 M2
    have HC := chosen_any HV4.out (HU.out.keep M4.out) (by rw [HLen.out]; omega) (by rw [HLen.out]; omega) (by omega)
    have HC := Lib.hid HC
    go_wp2_with (go_at_call 17; refine (HC.out).mono ?_; rintro e w5 ⟨v5, m, rfl, hv5, hm, m5⟩; refine Hid.out ?_)
    refine Lib.hid ?_
    obtain ⟨hw, hj⟩ := HP.out m hm.1 hm.2.1
    have hml : m.length ≤ 30 := by have := hm.2.2; omega
    have M5 := Lib.hid (M4.out.trans (m5.mono M4.out.size))
    have HV5 := Lib.hid hv5
    have HJ := g_join (k := (k : Int)) hv5 (by omega)
    have HF := fun (y : Int) w' (hb : Below w5.heap.size w5 w') => g_fits (k := (k : Int)) (s := y) (hv5.keep hb) (by omega)
    obtain ⟨a5, c5, hv5', hcap, _⟩ := hv5
    subst hv5'
    clear hcap m5 M4
    by_cases hkm : k ≤ m.length
    · obtain ⟨j1, j2⟩ := hj hkm
      rw [j1] at HJ
      have HF1 := HF s
      rw [fitsB_yes ((j2 s hsr).2 rfl)] at HF1
      have HF2 := HF x
      rw [fitsB_iff (j2 x hxr)] at HF2
      have HJ := Lib.hid HJ
      have HF1 := Lib.hid HF1
      have HF2 := Lib.hid HF2
      clear HF hj hw j1 j2 hm
      go_wp2_with (go_at_call 10; refine (HJ.out).mono ?_; rintro e w6 ⟨rfl, m6⟩; refine Hid.out ?_)
      refine Lib.hid ?_
      have M6 := Lib.hid m6
      clear m6
      go_wp2_with (go_at_call 13; refine (HF1.out _ M6.out).mono ?_; rintro e w7 ⟨rfl, m7⟩; refine Hid.out ?_)
      refine Lib.hid ?_
      have M7 := Lib.hid (M6.out.trans (m7.mono M6.out.size))
      clear m7 M6
      go_wp2_with (go_at_call 13; refine (HF2.out _ M7.out).mono ?_; rintro e w8 ⟨rfl, m8⟩; refine Hid.out ?_)
      refine Lib.hid ?_
      have M8 := Lib.hid (M5.out.trans ((M7.out.trans (m8.mono M7.out.size)).mono M5.out.size))
      clear m8 M7
      go_wp2
      go_ret
      exact ⟨rfl, M8.out⟩
    · have hf : ∀ y, 0 ≤ y ∧ y < P → Fits m k y := fun y hy => fits_few hw (by omega) hy
      have j1 := join_few hw (show (m.length : Int) < (k : Int) by omega)
      rw [j1] at HJ
      have HF1 := HF s
      rw [fitsB_yes (hf s hsr)] at HF1
      have HF2 := HF x
      rw [fitsB_yes (hf x hxr)] at HF2
      have HJ := Lib.hid HJ
      have HF1 := Lib.hid HF1
      have HF2 := Lib.hid HF2
      clear HF hj hw j1 hf hm
      go_wp2_with (go_at_call 10; refine (HJ.out).mono ?_; rintro e w6 ⟨rfl, m6⟩; refine Hid.out ?_)
      refine Lib.hid ?_
      have M6 := Lib.hid m6
      clear m6
      go_wp2_with (go_at_call 13; refine (HF1.out _ M6.out).mono ?_; rintro e w7 ⟨rfl, m7⟩; refine Hid.out ?_)
      refine Lib.hid ?_
      have M7 := Lib.hid (M6.out.trans (m7.mono M6.out.size))
      clear m7 M6
      go_wp2_with (go_at_call 13; refine (HF2.out _ M7.out).mono ?_; rintro e w8 ⟨rfl, m8⟩; refine Hid.out ?_)
      refine Lib.hid ?_
      have M8 := Lib.hid (M5.out.trans ((M7.out.trans (m8.mono M7.out.size)).mono M5.out.size))
      clear m8 M7
      go_wp2
      go_ret
      exact ⟨rfl, M8.out⟩
end
end Go.Proofs.Ytemokedoeneibaa
