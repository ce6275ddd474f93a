/- The reference: Split. -/
import Derived.Test.YtemokedoeneibaaSRef
namespace Go.Proofs.Ytemokedoeneibaa
open Go.RowKit Go.Maps Go.ChangeMaps Go.MapKept
open Sp
attribute [local go_sem ↓] Go.wp_at_zero Go.wp_at_succ

/-- A list that is the new one before i, and the old one from i on. -/
def Mix {α : Type} (L new old : List α) (i : Nat) : Prop := ∀ j, L[j]? = if j < i then new[j]? else old[j]?
theorem mix_start {α : Type} (new old : List α) : Mix old new old 0 := fun j => by rw [if_neg (Nat.not_lt_zero _)]
theorem mix_set {α : Type} {L new old : List α} {i : Nat} {a : α} (h : Mix L new old i) (ha : new[i]? = some a) (hl : i < L.length) : Mix (L.set i a) new old (i + 1) := fun j => by
  rw [List.getElem?_set]
  by_cases e : i = j
  · subst e; rw [if_pos rfl, if_pos hl, if_pos (Nat.lt_succ_self _), ha]
  · rw [if_neg e, h j]
    by_cases hj : j < i
    · rw [if_pos hj, if_pos (by omega)]
    · rw [if_neg hj, if_neg (by omega)]
theorem mix_end {α : Type} {L new old : List α} {i : Nat} (h : Mix L new old i) (h1 : new.length ≤ i) (h2 : old.length ≤ i) : L = new := by
  apply List.ext_getElem?
  intro j
  rw [h j]
  by_cases hj : j < i
  · rw [if_pos hj]
  · rw [if_neg hj, List.getElem?_eq_none (by omega), List.getElem?_eq_none (by omega)]
theorem mix_old {α : Type} {L new old : List α} {i : Nat} (h : Mix L new old i) : L[i]? = old[i]? := by rw [h i, if_neg (Nat.lt_irrefl _)]
def pows (n m : Nat) : List Int := (List.range n).map fun (j : Nat) => ((j : Int) + 1) ^ m % P
theorem pows_len (n m : Nat) : (pows n m).length = n := by simp [pows]
theorem pows_get {n m j : Nat} (h : j < n) : (pows n m)[j]? = some (((j : Int) + 1) ^ m % P) := by
  unfold pows
  rw [List.getElem?_map, List.getElem?_range h]; rfl
theorem pows_zero (n : Nat) : pows n 0 = List.replicate n 1 := by
  apply List.ext_getElem?
  intro j
  by_cases hj : j < n
  · rw [pows_get hj, List.getElem?_replicate, if_pos hj]; rfl
  · rw [List.getElem?_eq_none (by rw [pows_len]; omega), List.getElem?_eq_none (by simp; omega)]
def rows (secret seed : Int) (k n m : Nat) : List Pt := row n fun j => ev ((cf secret seed k).take m) ((j : Int) + 1) % P
theorem rows_len (secret seed : Int) (k n m : Nat) : (rows secret seed k n m).length = n := row_len _ _
theorem rows_get {secret seed : Int} {k n m j : Nat} (h : j < n) : (rows secret seed k n m)[j]? = some ((j : Int) + 1, ev ((cf secret seed k).take m) ((j : Int) + 1) % P) := row_get h
theorem rows_one {secret : Int} (seed : Int) {k n : Nat} (hs : 0 ≤ secret ∧ secret < P) : rows secret seed k n 1 = row n fun _ => secret := by
  unfold rows
  congr 1
  funext j
  simp [cf, ev, mod_small hs]
theorem rows_all (secret seed : Int) {k n : Nat} (hk : 1 ≤ k) : rows secret seed k n k = sp secret seed k n := by
  unfold rows
  rw [sp_row, List.take_of_length_le (by rw [cf_len hk]; exact Nat.le_refl _)]
theorem go_rem (n : Int) : n.tmod 2147483648 % 2147483648 = n % 2147483648 := by
  have h3 : n.tmod 2147483648 + 2147483648 * n.tdiv 2147483648 = n := Int.tmod_add_mul_tdiv n 2147483648
  omega
theorem tmod_range2 (n : Int) : -2147483648 < n.tmod 2147483648 ∧ n.tmod 2147483648 < 2147483648 := by
  have := Int.natAbs_tmod n 2147483648
  rw [show (2147483648 : Int).natAbs = 2147483648 from rfl] at this
  have := Nat.mod_lt n.natAbs (show 0 < 2147483648 by decide)
  omega
section
variable {w : World}
theorem no_of {secret k n : Int} (h : secret < 0 ∨ 2147483647 ≤ secret ∨ n < 1 ∨ 20 < n ∨ k < 1 ∨ n < k) : ¬ (inF secret = true ∧ isN n = true ∧ 1 ≤ k ∧ k ≤ n) := by
  rintro ⟨h1, h2, h3, h4⟩
  have h1 := of_decide_eq_true h1
  have h2 := of_decide_eq_true h2
  have := P_eq
  omega
set_option maxHeartbeats 2000000 in
set_option maxRecDepth 100000 in
theorem r_split (secret k n seed : Int) :
    Calls Try.prog 9 #[.int .i64 secret, .int .i64 k, .int .i64 n, .int .i64 seed] w (SplitPost w (split secret k n seed)) := by
  by_cases a1 : secret < 0
  · have HR := Lib.hid (split_no_post (w := w) (seed := seed) (no_of (k := k) (n := n) (.inl a1)))
    go_enter Try.func9, Try.ntmps9
    go_wp2
    go_ret2
    exact HR.out
  by_cases a2 : 2147483647 ≤ secret
  · have HR := Lib.hid (split_no_post (w := w) (seed := seed) (no_of (k := k) (n := n) (.inr (.inl a2))))
    go_enter Try.func9, Try.ntmps9
    go_wp2
    go_ret2
    exact HR.out
  by_cases a3 : n < 1
  · have HR := Lib.hid (split_no_post (w := w) (seed := seed) (no_of (k := k) (secret := secret) (.inr (.inr (.inl a3)))))
    go_enter Try.func9, Try.ntmps9
    go_wp2
    go_ret2
    exact HR.out
  by_cases a4 : 20 < n
  · have HR := Lib.hid (split_no_post (w := w) (seed := seed) (no_of (k := k) (secret := secret) (.inr (.inr (.inr (.inl a4))))))
    go_enter Try.func9, Try.ntmps9
    go_wp2
    go_ret2
    exact HR.out
  by_cases a5 : k < 1
  · have HR := Lib.hid (split_no_post (w := w) (seed := seed) (no_of (n := n) (secret := secret) (.inr (.inr (.inr (.inr (.inl a5)))))))
    go_enter Try.func9, Try.ntmps9
    go_wp2
    go_ret2
    exact HR.out
  by_cases a6 : n < k
  · have HR := Lib.hid (split_no_post (w := w) (seed := seed) (no_of (n := n) (secret := secret) (.inr (.inr (.inr (.inr (.inr a6)))))))
    go_enter Try.func9, Try.ntmps9
    go_wp2
    go_ret2
    exact HR.out
  have hP := P_eq
  have hs : 0 ≤ secret ∧ secret < P := by omega
  have HR := Lib.hid (split_yes (seed := seed) (secret := secret) (k := k) (n := n) ⟨decide_eq_true hs, decide_eq_true (by omega), by omega, by omega⟩)
  obtain ⟨k, rfl⟩ : ∃ m : Nat, k = (m : Int) := ⟨k.toNat, by omega⟩
  obtain ⟨n, rfl⟩ : ∃ m : Nat, n = (m : Int) := ⟨n.toNat, by omega⟩
  have hk3 : 1 ≤ k := by omega
  have hk4 : k ≤ n := by omega
  have hn4 : n ≤ 20 := by omega
  have z1 := tmod_range2 seed
  have HZ := Lib.hid (go_rem seed)
  have z2 : 0 ≤ seed.tmod 2147483648 + 2147483648 := by omega
  obtain ⟨w1, hr1, ho1, hg1⟩ := make_shares w n (by omega)
  have M1 := Lib.hid (show OMem w w1 [.row 39 2 (.slice (some ⟨w.heap.size, 0, none⟩) n n) n (ptVs (List.replicate n (0, 0)))] from (OMem.start w).rowMade hg1 ho1)
  clear ho1 hg1
  go_enter Try.func9, Try.ntmps9
  go_wp2
  rw [HZ.out]
  generalize w.heap.size = B at *
  clear hr1 z1 z2
  go_loopw [12] (fun i wr => ∃ (m : Nat) (L : List Pt), m ≤ n ∧ i = .int .i64 (m : Int) ∧ L.length = n ∧ Hid (Upto L (row n fun _ => secret) m) ∧ OMem w wr [.row 39 2 (.slice (some ⟨B, 0, none⟩) n n) n (ptVs L)]) (fun i _ => n - (intOf i).toNat)
  case atStart => exact ⟨0, _, Nat.zero_le _, rfl, by simp, Lib.hid (fun j hj => by omega), M1.out⟩
  case round =>
    obtain ⟨m, L, hm, rfl, hL, HU, M⟩ := hrel
    have HL := Lib.hid hL
    by_cases hlt : m < n
    · obtain ⟨p, hp⟩ : ∃ p, L[m]? = some p := ⟨_, List.getElem?_eq_getElem (by omega)⟩
      have HN := Lib.hid (upto_set HU.out (row_get (y := fun _ => secret) hlt) (by omega))
      have ho := M.rowAt (i := 0) rfl
      have c0 := own_at ho (pt_at hp).1
      have c1 := own_at ho (pt_at hp).2
      have f0 := own_fz ho (m * 2)
      have f1 := own_fz ho (m * 2 + 1)
      have m6 := (M.rowSet (i := 0) rfl (m * 2) (.int .i64 ((m : Int) + 1))).rowSet (i := 0) rfl (m * 2 + 1) (.int .i64 secret)
      rw [pt_set2] at m6
      have M6 := Lib.hid (show OMem w _ [.row 39 2 (.slice (some ⟨B, 0, none⟩) n n) n (ptVs (L.set m ((m : Int) + 1, secret)))] from m6)
      clear ho m6 M hp hL
      go_wp2
      go_roundw
      case rel => exact ⟨m + 1, _, by omega, by go_num, by rw [List.length_set]; exact HL.out, HN, M6.out⟩
      case measure => simp [intOf]; omega
    · obtain rfl : n = m := by omega
      have hl : L = rows secret seed k n 1 := by rw [rows_one seed hs]; exact upto_end (by rw [row_len]; exact HU.out) (by rw [hL, row_len])
      subst hl
      obtain ⟨w2, hr2, ho2, hg2⟩ := make_ints wr n (by omega)
      have M2 := Lib.hid (show OMem w w2 [.row 39 2 (.slice (some ⟨B, 0, none⟩) n n) n (ptVs (rows secret seed k n 1)), .row 3 1 (.slice (some ⟨wr.heap.size, 0, none⟩) n n) n (intVs (List.replicate n 0))] from M.rowMade hg2 ho2)
      clear ho2 hg2 M hL HL HU
      go_wp2
      generalize wr.heap.size = B2 at *
      clear hr2
      go_loopw [14] (fun i wr => ∃ (m : Nat) (Q : List Int), m ≤ n ∧ i = .int .i64 (m : Int) ∧ Q.length = n ∧ Hid (Upto Q (pows n 0) m) ∧ OMem w wr [.row 39 2 (.slice (some ⟨B, 0, none⟩) n n) n (ptVs (rows secret seed k n 1)), .row 3 1 (.slice (some ⟨B2, 0, none⟩) n n) n (intVs Q)]) (fun i _ => n - (intOf i).toNat)
      case atStart => exact ⟨0, _, Nat.zero_le _, rfl, by simp, Lib.hid (fun j hj => by omega), M2.out⟩
      case round =>
        obtain ⟨m, Q, hm, rfl, hQ, HU, M⟩ := hrel
        have HL := Lib.hid hQ
        by_cases hlt : m < n
        · obtain ⟨p, hp⟩ : ∃ p, Q[m]? = some p := ⟨_, List.getElem?_eq_getElem (by omega)⟩
          have HN := Lib.hid (upto_set HU.out (show (pows n 0)[m]? = some 1 from pows_get (m := 0) hlt) (by omega))
          have ho := M.rowAt (i := 1) rfl
          have c0 := own_at ho (intVs_get hp)
          have f0 := own_fz ho m
          have m6 := M.rowSet (i := 1) rfl m (.int .i64 1)
          rw [intVs_set] at m6
          have M6 := Lib.hid (show OMem w (wr.setCell ⟨B2, m, none⟩ (.int .i64 1)) [.row 39 2 (.slice (some ⟨B, 0, none⟩) n n) n (ptVs (rows secret seed k n 1)), .row 3 1 (.slice (some ⟨B2, 0, none⟩) n n) n (intVs (Q.set m 1))] from m6)
          clear ho m6 M hp hQ
          go_wp2
          go_roundw
          case rel => exact ⟨m + 1, _, by omega, by go_num, by rw [List.length_set]; exact HL.out, HN, M6.out⟩
          case measure => simp [intOf]; omega
        · obtain rfl : n = m := by omega
          have hl : Q = pows n 0 := upto_end (by rw [pows_len]; exact HU.out) (by rw [hQ, pows_len])
          subst hl
          have HM := Lib.hid M
          clear M hQ HL HU
          go_wp2
          go_loopw [10, 15] (fun x c wr => ∃ (m : Nat), m + 1 ≤ k ∧ x = .int .i64 (rnd seed m) ∧ c = .int .i64 ((m : Int) + 1) ∧ OMem w wr [.row 39 2 (.slice (some ⟨B, 0, none⟩) n n) n (ptVs (rows secret seed k n (m + 1))), .row 3 1 (.slice (some ⟨B2, 0, none⟩) n n) n (intVs (pows n m))]) (fun _ c _ => k - (intOf c).toNat)
          case atStart => exact ⟨0, by omega, rfl, rfl, HM.out⟩
          case round =>
            obtain ⟨m, hm, rfl, rfl, M⟩ := hrel
            have HM := Lib.hid M
            clear M
            by_cases hlt : m + 1 < k
            · have hlt2 : (m : Int) + 1 < (k : Int) := by omega
              have hin := rnd_in seed m
              have hin2 := rnd_in seed (m + 1)
              go_wp2
              rw [show (1103515245 * rnd seed m + 12345) % 2147483648 = rnd seed (m + 1) from rfl]
              go_loopw [16] (fun i wr => ∃ (j : Nat) (L : List Pt) (Q : List Int), j ≤ n ∧ i = .int .i64 (j : Int) ∧ L.length = n ∧ Q.length = n ∧ Hid (Mix L (rows secret seed k n (m + 2)) (rows secret seed k n (m + 1)) j) ∧ Hid (Mix Q (pows n (m + 1)) (pows n m) j) ∧ OMem w wr [.row 39 2 (.slice (some ⟨B, 0, none⟩) n n) n (ptVs L), .row 3 1 (.slice (some ⟨B2, 0, none⟩) n n) n (intVs Q)]) (fun i _ => n - (intOf i).toNat)
              case atStart => exact ⟨0, _, _, Nat.zero_le _, rfl, rows_len _ _ _ _ _, pows_len _ _, Lib.hid (mix_start _ _), Lib.hid (mix_start _ _), HM.out⟩
              case round =>
                obtain ⟨j, L, Q, hj, rfl, hL, hQ, HL, HQ, M⟩ := hrel
                by_cases hjn : j < n
                · have hq := (mix_old HQ.out).trans (pows_get (m := m) hjn)
                  have hl := (mix_old HL.out).trans (rows_get (secret := secret) (seed := seed) (k := k) (m := m + 1) hjn)
                  obtain ⟨y, hy⟩ : ∃ y, y = ((j : Int) + 1) ^ m % P := ⟨_, rfl⟩
                  obtain ⟨e, he⟩ : ∃ e, e = ev ((cf secret seed k).take (m + 1)) ((j : Int) + 1) % P := ⟨_, rfl⟩
                  rw [← hy] at hq
                  rw [← he] at hl
                  have hyr := mod_in (((j : Int) + 1) ^ m)
                  rw [← hy] at hyr
                  have her := mod_in (ev ((cf secret seed k).take (m + 1)) ((j : Int) + 1))
                  rw [← he] at her
                  have hp2 := pow_step hy
                  obtain ⟨y2, hy2⟩ : ∃ z, z = y * ((j : Int) + 1) % P := ⟨_, rfl⟩
                  have hy2r := mod_in (y * ((j : Int) + 1))
                  rw [← hy2] at hp2 hy2r
                  have hct := cf_take (secret := secret) (seed := seed) hlt
                  have hmore := more_step (c := rnd seed (m + 1) % P) he (y := y2) (by rw [List.length_take, cf_len hk3, Nat.min_eq_left hm]; exact hp2)
                  rw [← hct] at hmore
                  have HQ2 := Lib.hid (mix_set HQ.out (show (pows n (m + 1))[j]? = some y2 by rw [hp2]; exact pows_get hjn) (by omega))
                  have HL2 := Lib.hid (mix_set HL.out (show (rows secret seed k n (m + 2))[j]? = some ((j : Int) + 1, (e + rnd seed (m + 1) % P * y2) % P) by rw [hmore]; exact rows_get hjn) (by omega))
                  have ho := M.rowAt (i := 1) rfl
                  have c0 := own_at ho (intVs_get hq)
                  have f0 := own_fz ho j
                  have m3 := M.rowSet (i := 1) rfl j (.int .i64 y2)
                  rw [intVs_set] at m3
                  have M3 : OMem w (wr.setCell ⟨B2, j, none⟩ (.int .i64 y2)) [.row 39 2 (.slice (some ⟨B, 0, none⟩) n n) n (ptVs L), .row 3 1 (.slice (some ⟨B2, 0, none⟩) n n) n (intVs (Q.set j y2))] := m3
                  have ho1 := M3.drew.rowAt (i := 0) rfl
                  have ho2 := M3.drew.rowAt (i := 1) rfl
                  have S0 := And.intro (own_at ho1 (pt_at hl).2) (own_at ho2 (intVs_get (List.getElem?_set_self (by omega))))
                  have f1 := own_fz ho1 (j * 2 + 1)
                  have m4 := M3.drew.rowSet (i := 0) rfl (j * 2 + 1) (.int .i64 ((e + rnd seed (m + 1) % P * y2) % P))
                  rw [← pt_set_y hl] at m4
                  have M4 := Lib.hid (show OMem w ((wr.setCell ⟨B2, j, none⟩ (.int .i64 y2)).drew.setCell ⟨B, j * 2 + 1, none⟩ (.int .i64 ((e + rnd seed (m + 1) % P * y2) % P))) [.row 39 2 (.slice (some ⟨B, 0, none⟩) n n) n (ptVs (L.set j ((j : Int) + 1, (e + rnd seed (m + 1) % P * y2) % P))), .row 3 1 (.slice (some ⟨B2, 0, none⟩) n n) n (intVs (Q.set j y2))] from m4)
                  have b1 : 0 ≤ y * ((j : Int) + 1) := Int.mul_nonneg hyr.1 (by omega)
                  have b2 : y * ((j : Int) + 1) ≤ 2147483647 * 20 := Int.mul_le_mul (by omega) (by omega) (by omega) (by decide)
                  have hxr := mod_in (rnd seed (m + 1))
                  have b3 : 0 ≤ rnd seed (m + 1) % 2147483647 * y2 := Int.mul_nonneg hxr.1 hy2r.1
                  have b4 : rnd seed (m + 1) % 2147483647 * y2 ≤ 2147483647 * 2147483647 := Int.mul_le_mul (by omega) (by omega) hy2r.1 (by decide)
                  have HY := Lib.hid (show y * ((j : Int) + 1) % 2147483647 = y2 from hy2.symm)
                  have HLl := Lib.hid hL
                  have HQl := Lib.hid hQ
                  clear hq hl hy he hp2 hct hmore ho m3 M3 ho1 ho2 m4 M hy2 hL hQ hP
                  go_wp2
                  rw [HY.out]
                  generalize wr.setCell ⟨B2, j, none⟩ (.int .i64 y2) = w3 at *
                  have hw1 : IntKind.i64.wrap (rnd seed (m + 1) % 2147483647 * y2) = rnd seed (m + 1) % 2147483647 * y2 := by rw [IntKind.wrap_i64]; omega
                  have hw2 : IntKind.i64.wrap (e + rnd seed (m + 1) % 2147483647 * y2) = e + rnd seed (m + 1) % 2147483647 * y2 := by rw [IntKind.wrap_i64]; have := P_eq; omega
                  have ht : (rnd seed (m + 1)).tmod 2147483647 = rnd seed (m + 1) % 2147483647 := Int.tmod_eq_emod_of_nonneg hin2.1
                  have ht2 : (e + rnd seed (m + 1) % 2147483647 * y2).tmod 2147483647 = (e + rnd seed (m + 1) % 2147483647 * y2) % 2147483647 := Int.tmod_eq_emod_of_nonneg (by omega)
                  clear b1 b2 c0 f0
                  refine region_till 18 (fun wx => wx.cell? ⟨B, j * 2 + 1, none⟩ = some (.int .i64 e) ∧ wx.cell? ⟨B2, j, none⟩ = some (.int .i64 y2)) (by kernel_rfl) ?_
                  refine till_take 0 40 false (v := ?v0) (by kernel_rfl) (by kernel_rfl) (by kernel_rfl) (by kernel_rfl) (by kernel_rfl) (fun _ _ _ h => h) ?hw0 S0 ?hy0 ?rest0
                  case hw0 => (simp only [List.getElem?_toArray, List.getElem?_cons_zero, Option.elim]; rfl)
                  case hy0 => (simp only [List.getElem?_toArray, List.getElem?_cons_zero, Option.elim]; intro wx _; go_simp; with_reducible rfl)
                  simp only [dstOf, List.getElem?_toArray, List.getElem?_cons_zero, Option.bind, Act.put, List.setIfInBounds_toArray, List.set_cons_zero, List.set_cons_succ]
                  refine till_take 1 40 false (v := ?v1) (by kernel_rfl) (by kernel_rfl) (by kernel_rfl) (by kernel_rfl) (by kernel_rfl) (fun _ _ _ h => h) ?hw1 S0 ?hy1 ?rest1
                  case hw1 => (simp only [List.getElem?_toArray, List.getElem?_cons_zero, List.getElem?_cons_succ, Option.elim]; rfl)
                  case hy1 => (simp only [List.getElem?_toArray, List.getElem?_cons_zero, List.getElem?_cons_succ, Option.elim]; intro wx _; go_simp; with_reducible rfl)
                  simp only [dstOf, List.getElem?_toArray, List.getElem?_cons_zero, List.getElem?_cons_succ, Option.bind, Act.put, List.setIfInBounds_toArray, List.set_cons_zero, List.set_cons_succ]
                  refine till_take 2 40 false (v := ?v2) (by kernel_rfl) (by kernel_rfl) (by kernel_rfl) (by kernel_rfl) (by kernel_rfl) (fun _ _ _ h => h) ?hw2 S0 ?hy2 ?rest2
                  case hw2 => (simp only [List.getElem?_toArray, List.getElem?_cons_zero, List.getElem?_cons_succ, Option.elim]; rfl)
                  case hy2 => (simp only [List.getElem?_toArray, List.getElem?_cons_zero, List.getElem?_cons_succ, Option.elim]; intro wx _; go_simp; with_reducible rfl)
                  simp only [dstOf, List.getElem?_toArray, List.getElem?_cons_zero, List.getElem?_cons_succ, Option.bind, Act.put, List.setIfInBounds_toArray, List.set_cons_zero, List.set_cons_succ]
                  refine till_take 3 40 false (v := ?v3) (by kernel_rfl) (by kernel_rfl) (by kernel_rfl) (by kernel_rfl) (by kernel_rfl) (fun _ _ _ h => h) ?hw3 S0 ?hy3 ?rest3
                  case hw3 => (simp only [List.getElem?_toArray, List.getElem?_cons_zero, List.getElem?_cons_succ, Option.elim]; rfl)
                  case hy3 => (simp only [List.getElem?_toArray, List.getElem?_cons_zero, List.getElem?_cons_succ, Option.elim]; intro wx _; go_simp; with_reducible rfl)
                  simp only [dstOf, List.getElem?_toArray, List.getElem?_cons_zero, List.getElem?_cons_succ, Option.bind, Act.put, List.setIfInBounds_toArray, List.set_cons_zero, List.set_cons_succ]
                  refine till_take 4 40 false (v := ?v4) (by kernel_rfl) (by kernel_rfl) (by kernel_rfl) (by kernel_rfl) (by kernel_rfl) (fun _ _ _ h => h) ?hw4 S0 ?hy4 ?rest4
                  case hw4 => (simp only [List.getElem?_toArray, List.getElem?_cons_zero, List.getElem?_cons_succ, Option.elim]; rfl)
                  case hy4 => (simp only [List.getElem?_toArray, List.getElem?_cons_zero, List.getElem?_cons_succ, Option.elim]; intro wx _; go_simp; with_reducible rfl)
                  simp only [dstOf, List.getElem?_toArray, List.getElem?_cons_zero, List.getElem?_cons_succ, Option.bind, Act.put, List.setIfInBounds_toArray, List.set_cons_zero, List.set_cons_succ]
                  refine till_take 5 40 false (v := ?v5) (by kernel_rfl) (by kernel_rfl) (by kernel_rfl) (by kernel_rfl) (by kernel_rfl) (fun _ _ _ h => h) ?hw5 S0 ?hy5 ?rest5
                  case hw5 => (simp only [List.getElem?_toArray, List.getElem?_cons_zero, List.getElem?_cons_succ, Option.elim]; rfl)
                  case hy5 => (simp only [List.getElem?_toArray, List.getElem?_cons_zero, List.getElem?_cons_succ, Option.elim]; intro wx _; go_simp; with_reducible rfl)
                  simp only [dstOf, List.getElem?_toArray, List.getElem?_cons_zero, List.getElem?_cons_succ, Option.bind, Act.put, List.setIfInBounds_toArray, List.set_cons_zero, List.set_cons_succ]
                  refine till_take 6 40 true (v := ?v6) (by kernel_rfl) (by kernel_rfl) (by kernel_rfl) (by kernel_rfl) (by kernel_rfl) (fun _ _ _ h => h) ?hw6 S0 ?hy6 ?rest6
                  case hw6 => (simp only [List.getElem?_toArray, List.getElem?_cons_zero, List.getElem?_cons_succ, Option.elim]; rfl)
                  case hy6 => (simp only [List.getElem?_toArray, List.getElem?_cons_zero, List.getElem?_cons_succ, Option.elim]; intro wx hx; have x0 := (hx trivial).1; have x1 := (hx trivial).2; go_simp; with_reducible rfl)
                  simp only [dstOf, List.getElem?_toArray, List.getElem?_cons_zero, List.getElem?_cons_succ, Option.bind, Act.put, List.setIfInBounds_toArray, List.set_cons_zero, List.set_cons_succ]
                  refine till_take 7 40 false (v := ?v7) (by kernel_rfl) (by kernel_rfl) (by kernel_rfl) (by kernel_rfl) (by kernel_rfl) (fun _ _ _ h => h) ?hw7 S0 ?hy7 ?rest7
                  case hw7 => (simp only [List.getElem?_toArray, List.getElem?_cons_zero, List.getElem?_cons_succ, Option.elim]; rfl)
                  case hy7 => (simp only [List.getElem?_toArray, List.getElem?_cons_zero, List.getElem?_cons_succ, Option.elim]; intro wx _; go_simp; with_reducible rfl)
                  simp only [dstOf, List.getElem?_toArray, List.getElem?_cons_zero, List.getElem?_cons_succ, Option.bind, Act.put, List.setIfInBounds_toArray, List.set_cons_zero, List.set_cons_succ]
                  refine till_take 8 40 false (v := ?v8) (by kernel_rfl) (by kernel_rfl) (by kernel_rfl) (by kernel_rfl) (by kernel_rfl) (fun _ _ _ h => h) ?hw8 S0 ?hy8 ?rest8
                  case hw8 => (simp only [List.getElem?_toArray, List.getElem?_cons_zero, List.getElem?_cons_succ, Option.elim]; rfl)
                  case hy8 => (simp only [List.getElem?_toArray, List.getElem?_cons_zero, List.getElem?_cons_succ, Option.elim]; intro wx _; go_simp; with_reducible rfl)
                  simp only [dstOf, List.getElem?_toArray, List.getElem?_cons_zero, List.getElem?_cons_succ, Option.bind, Act.put, List.setIfInBounds_toArray, List.set_cons_zero, List.set_cons_succ]
                  refine till_take 9 40 false (v := ?v9) (by kernel_rfl) (by kernel_rfl) (by kernel_rfl) (by kernel_rfl) (by kernel_rfl) (fun _ _ _ h => h) ?hw9 S0 ?hy9 ?rest9
                  case hw9 => (simp only [List.getElem?_toArray, List.getElem?_cons_zero, List.getElem?_cons_succ, Option.elim]; rfl)
                  case hy9 => (simp only [List.getElem?_toArray, List.getElem?_cons_zero, List.getElem?_cons_succ, Option.elim]; intro wx _; go_simp; with_reducible rfl)
                  simp only [dstOf, List.getElem?_toArray, List.getElem?_cons_zero, List.getElem?_cons_succ, Option.bind, Act.put, List.setIfInBounds_toArray, List.set_cons_zero, List.set_cons_succ]
                  refine till_take 10 40 false (v := ?v10) (by kernel_rfl) (by kernel_rfl) (by kernel_rfl) (by kernel_rfl) (by kernel_rfl) (fun _ _ _ h => h) ?hw10 S0 ?hy10 ?rest10
                  case hw10 => (simp only [List.getElem?_toArray, List.getElem?_cons_zero, List.getElem?_cons_succ, Option.elim]; rfl)
                  case hy10 => (simp only [List.getElem?_toArray, List.getElem?_cons_zero, List.getElem?_cons_succ, Option.elim]; intro wx _; go_simp; with_reducible rfl)
                  simp only [dstOf, List.getElem?_toArray, List.getElem?_cons_zero, List.getElem?_cons_succ, Option.bind, Act.put, List.setIfInBounds_toArray, List.set_cons_zero, List.set_cons_succ]
                  refine till_take 11 40 false (v := ?v11) (by kernel_rfl) (by kernel_rfl) (by kernel_rfl) (by kernel_rfl) (by kernel_rfl) (fun _ _ _ h => h) ?hw11 S0 ?hy11 ?rest11
                  case hw11 => (simp only [List.getElem?_toArray, List.getElem?_cons_zero, List.getElem?_cons_succ, Option.elim]; rfl)
                  case hy11 => (simp only [List.getElem?_toArray, List.getElem?_cons_zero, List.getElem?_cons_succ, Option.elim]; intro wx _; go_simp; with_reducible rfl)
                  simp only [dstOf, List.getElem?_toArray, List.getElem?_cons_zero, List.getElem?_cons_succ, Option.bind, Act.put, List.setIfInBounds_toArray, List.set_cons_zero, List.set_cons_succ]
                  refine till_take 12 40 true (v := ?v12) (by kernel_rfl) (by kernel_rfl) (by kernel_rfl) (by kernel_rfl) (by kernel_rfl) (fun _ _ _ h => h) ?hw12 S0 ?hy12 ?rest12
                  case hw12 => (simp only [List.getElem?_toArray, List.getElem?_cons_zero, List.getElem?_cons_succ, Option.elim]; rfl)
                  case hy12 => (simp only [List.getElem?_toArray, List.getElem?_cons_zero, List.getElem?_cons_succ, Option.elim]; intro wx hx; have x0 := (hx trivial).1; have x1 := (hx trivial).2; go_simp; with_reducible rfl)
                  simp only [dstOf, List.getElem?_toArray, List.getElem?_cons_zero, List.getElem?_cons_succ, Option.bind, Act.put, List.setIfInBounds_toArray, List.set_cons_zero, List.set_cons_succ]
                  refine till_take 13 40 false (v := ?v13) (by kernel_rfl) (by kernel_rfl) (by kernel_rfl) (by kernel_rfl) (by kernel_rfl) (fun _ _ _ h => h) ?hw13 S0 ?hy13 ?rest13
                  case hw13 => (simp only [List.getElem?_toArray, List.getElem?_cons_zero, List.getElem?_cons_succ, Option.elim]; rfl)
                  case hy13 => (simp only [List.getElem?_toArray, List.getElem?_cons_zero, List.getElem?_cons_succ, Option.elim]; intro wx _; go_simp; with_reducible rfl)
                  simp only [dstOf, List.getElem?_toArray, List.getElem?_cons_zero, List.getElem?_cons_succ, Option.bind, Act.put, List.setIfInBounds_toArray, List.set_cons_zero, List.set_cons_succ]
                  refine till_take 14 40 false (v := ?v14) (by kernel_rfl) (by kernel_rfl) (by kernel_rfl) (by kernel_rfl) (by kernel_rfl) (fun _ _ _ h => h) ?hw14 S0 ?hy14 ?rest14
                  case hw14 => (simp only [List.getElem?_toArray, List.getElem?_cons_zero, List.getElem?_cons_succ, Option.elim]; rfl)
                  case hy14 => (simp only [List.getElem?_toArray, List.getElem?_cons_zero, List.getElem?_cons_succ, Option.elim]; intro wx _; go_simp; with_reducible rfl)
                  simp only [dstOf, List.getElem?_toArray, List.getElem?_cons_zero, List.getElem?_cons_succ, Option.bind, Act.put, List.setIfInBounds_toArray, List.set_cons_zero, List.set_cons_succ]
                  refine till_take 15 40 false (v := ?v15) (by kernel_rfl) (by kernel_rfl) (by kernel_rfl) (by kernel_rfl) (by kernel_rfl) (fun _ _ _ h => h) ?hw15 S0 ?hy15 ?rest15
                  case hw15 => (simp only [List.getElem?_toArray, List.getElem?_cons_zero, List.getElem?_cons_succ, Option.elim]; rfl)
                  case hy15 => (simp only [List.getElem?_toArray, List.getElem?_cons_zero, List.getElem?_cons_succ, Option.elim]; intro wx _; go_simp; with_reducible rfl)
                  simp only [dstOf, List.getElem?_toArray, List.getElem?_cons_zero, List.getElem?_cons_succ, Option.bind, Act.put, List.setIfInBounds_toArray, List.set_cons_zero, List.set_cons_succ]
                  refine till_take 16 40 false (v := ?v16) (by kernel_rfl) (by kernel_rfl) (by kernel_rfl) (by kernel_rfl) (by kernel_rfl) (fun _ _ _ h => h) ?hw16 S0 ?hy16 ?rest16
                  case hw16 => (simp only [List.getElem?_toArray, List.getElem?_cons_zero, List.getElem?_cons_succ, Option.elim]; rfl)
                  case hy16 => (simp only [List.getElem?_toArray, List.getElem?_cons_zero, List.getElem?_cons_succ, Option.elim]; intro wx _; go_simp; with_reducible rfl)
                  simp only [dstOf, List.getElem?_toArray, List.getElem?_cons_zero, List.getElem?_cons_succ, Option.bind, Act.put, List.setIfInBounds_toArray, List.set_cons_zero, List.set_cons_succ]
                  refine till_take 17 40 false (v := ?v17) (by kernel_rfl) (by kernel_rfl) (by kernel_rfl) (by kernel_rfl) (by kernel_rfl) (fun _ _ _ h => h) ?hw17 S0 ?hy17 ?rest17
                  case hw17 => (simp only [List.getElem?_toArray, List.getElem?_cons_zero, List.getElem?_cons_succ, Option.elim]; rfl)
                  case hy17 => (simp only [List.getElem?_toArray, List.getElem?_cons_zero, List.getElem?_cons_succ, Option.elim]; intro wx _; go_simp; with_reducible rfl)
                  simp only [dstOf, List.getElem?_toArray, List.getElem?_cons_zero, List.getElem?_cons_succ, Option.bind, Act.put, List.setIfInBounds_toArray, List.set_cons_zero, List.set_cons_succ]
                  refine till_step 18 (by kernel_rfl) (by kernel_rfl) (fun K hK => ?_)
                  simp only [List.getElem?_toArray, List.getElem?_cons_zero, List.getElem?_cons_succ, Option.elim]
                  rw [if_pos (by rfl)]
                  have x0 := S0.1
                  have x1 := S0.2
                  go_simp
                  refine hK.out _ _ ?_
                  clear hK K
                  try simp only [Act.put, List.setIfInBounds_toArray, List.set_cons_zero, List.set_cons_succ]
                  refine till_end (by kernel_rfl) ?_ _
                  have M5 := Lib.hid (show OMem w (w3.setCell ⟨B, j * 2 + 1, none⟩ (.int .i64 ((e + rnd seed (m + 1) % 2147483647 * y2) % 2147483647))).drew [.row 39 2 (.slice (some ⟨B, 0, none⟩) n n) n (ptVs (L.set j ((j : Int) + 1, (e + rnd seed (m + 1) % P * y2) % P))), .row 3 1 (.slice (some ⟨B2, 0, none⟩) n n) n (intVs (Q.set j y2))] from M4.out)
                  clear hw1 hw2 ht ht2 M4 f1 x0 x1
                  go_wp2
                  go_roundw
                  case rel => exact ⟨j + 1, _, _, by omega, by go_num, by rw [List.length_set]; exact HLl.out, by rw [List.length_set]; exact HQl.out, HL2, HQ2, M5.out⟩
                  case measure => simp [intOf]; omega
                · obtain rfl : n = j := by omega
                  have e1 := mix_end HL.out (by rw [rows_len]; exact Nat.le_refl _) (by rw [rows_len]; exact Nat.le_refl _)
                  have e2 := mix_end HQ.out (by rw [pows_len]; exact Nat.le_refl _) (by rw [pows_len]; exact Nat.le_refl _)
                  subst e1 e2
                  have HM := Lib.hid M
                  clear M hL hQ HL HQ
                  go_wp2
                  go_roundw
                  case rel => exact ⟨m + 1, by omega, rfl, by go_num, HM.out⟩
                  case measure => simp [intOf]; omega
            · obtain rfl : k = m + 1 := by omega
              have hl := rows_all secret seed (n := n) hk3
              have HS := Lib.hid (SharesAt.of_own (l := sp secret seed (m + 1) n) (by have := HM.out.rowAt (i := 0) rfl; rw [hl] at this; exact this))
              have HB := Lib.hid HM.out.below
              clear hl
              go_wp2
              go_ret2
              unfold SplitPost
              rw [HR.out]
              exact ⟨_, rfl, HS.out, HB.out⟩
end
end Go.Proofs.Ytemokedoeneibaa
