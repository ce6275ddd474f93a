/- The program's Split. -/
import Derived.Test.YtemokedoeneibaaSFits
namespace Go.Proofs.Ytemokedoeneibaa
open Go.RowKit Go.Maps Go.ChangeMaps Go.MapKept
open Sp
attribute [local go_sem ↓] Go.wp_at_zero Go.wp_at_succ

theorem and_seed (s : Int) : bits BinOp.and IntKind.i64 s 2147483647 = s % 2147483648 := by
  have h1 : ((BitVec.ofInt 64 s &&& BitVec.ofInt 64 2147483647).toNat : Int) = s % 2147483648 := by
    rw [BitVec.toNat_and, BitVec.toNat_ofInt]
    rw [show (BitVec.ofInt 64 2147483647).toNat = 2 ^ 31 - 1 by decide, Nat.and_two_pow_sub_one_eq_mod]
    have e : ((2 ^ 64 : Nat) : Int) = 18446744073709551616 := by decide
    rw [e]
    have e2 : (2 : Nat) ^ 31 = 2147483648 := by decide
    rw [e2]
    omega
  unfold bits
  show IntKind.wrap .i64 ((BitVec.ofInt 64 s &&& BitVec.ofInt 64 2147483647).toNat : Int) = _
  rw [h1]
  have h2 : 0 ≤ s % 2147483648 := by omega
  have h3 : s % 2147483648 < 2147483648 := by omega
  generalize s % 2147483648 = x at *
  simp [IntKind.wrap, IntKind.bits, IntKind.signed]
  omega
theorem Calls.same {P : Program} {f : FuncId} {args : Array Value} {w : World} {r : Ending} (h : Calls P f args w fun e w' => e = r ∧ w = w') : Calls P f args w fun e w' => e = r ∧ w' = w := h.mono fun _ _ ⟨h, e⟩ => ⟨h, e.symm⟩
/-- Lists that agree up to i. -/
def Upto {α : Type} (L M : List α) (i : Nat) : Prop := ∀ j, j < i → L[j]? = M[j]?
theorem upto_set {α : Type} {L M : List α} {i : Nat} {a : α} (h : Upto L M i) (ha : M[i]? = some a) (hl : i < L.length) : Upto (L.set i a) M (i + 1) := fun j hj => by
  rw [List.getElem?_set]
  by_cases e : i = j
  · subst e; rw [if_pos rfl, if_pos hl, ha]
  · rw [if_neg e]; exact h j (by omega)
theorem upto_end {α : Type} {L M : List α} (h : Upto L M M.length) (hl : L.length = M.length) : L = M := by
  apply List.ext_getElem?
  intro j
  by_cases hj : j < M.length
  · exact h j hj
  · rw [List.getElem?_eq_none (by omega), List.getElem?_eq_none (by omega)]
theorem intVs_set (L : List Int) (i : Nat) (a : Int) : (intVs L).set i (.int .i64 a) = intVs (L.set i a) := by simp [intVs, List.map_set]
theorem intVs_get {L : List Int} {i : Nat} {a : Int} (h : L[i]? = some a) : (intVs L)[i]? = some (.int .i64 a) := by simp [intVs, h]
theorem drewN_below (w : World) (n : Nat) : Below w.heap.size w (w.drewN n) := ⟨rfl, rfl, rfl, Nat.le_refl _, fun _ _ => rfl⟩
section
variable {w : World}
set_option maxHeartbeats 1000000 in
set_option maxRecDepth 100000 in
theorem g_poly {secret : Int} (seed : Int) {k : Nat} (hk1 : 1 ≤ k) (hk2 : k ≤ 20) :
    Calls Try.prog 20 #[.int .i64 secret, .int .i64 (k : Int), .int .i64 seed] w fun e w' => ∃ v, e = .returned v ∧ IntsAt w' v (cf secret seed k) ∧ Below w.heap.size w w' := by
  obtain ⟨w1, hr, ho, hg⟩ := make_ints w k (by omega)
  have c0 : w1.cell? ⟨w.heap.size, 0, none⟩ = some (.int .i64 0) := own_at ho (intVs_get (by rw [List.getElem?_replicate, if_pos (by omega)]))
  have f0 := own_fz ho 0
  have m2 := ((OMem.start w).rowMade hg ho).rowSet (i := 0) rfl 0 (.int .i64 secret)
  rw [intVs_set] at m2
  have M2 := Lib.hid (show OMem w (w1.setCell ⟨w.heap.size, 0, none⟩ (.int .i64 secret)) [.row 3 1 (.slice (some ⟨w.heap.size, 0, none⟩) k k) k (intVs ((List.replicate k 0).set 0 secret))] from m2)
  have HU := Lib.hid (upto_set (L := List.replicate k 0) (M := cf secret seed k) (i := 0) (a := secret) (fun j hj => by omega) rfl (by simp; omega))
  have HS := Lib.hid (and_seed seed)
  clear ho hg m2
  go_enter Try.func20, Try.ntmps20
  go_wp2
  rw [HS.out]
  generalize w1.setCell ⟨w.heap.size, 0, none⟩ (.int .i64 secret) = w2 at *
  generalize w.heap.size = B at *
  clear hr c0 f0
  go_loopw [8, 9] (fun x i wr => ∃ (m : Nat) (L : List Int), m + 1 ≤ k ∧ x = .int .i64 (rnd seed m) ∧ i = .int .i64 ((m + 1 : Nat) : Int) ∧ L.length = k ∧ Hid (Upto L (cf secret seed k) (m + 1)) ∧ OMem w wr [.row 3 1 (.slice (some ⟨B, 0, none⟩) k k) k (intVs L)]) (fun _ i _ => k - (intOf i).toNat)
  case atStart => exact ⟨0, _, by omega, rfl, rfl, by simp, HU, M2.out⟩
  case round =>
    obtain ⟨m, L, hm, rfl, rfl, hL, HL, M⟩ := hrel
    have hin := rnd_in seed m
    by_cases hlt : m + 1 < k
    · obtain ⟨a, ha⟩ : ∃ a, L[m + 1]? = some a := ⟨_, List.getElem?_eq_getElem (by omega)⟩
      have ho := M.rowAt (i := 0) rfl
      have c0 := own_at ho (intVs_get ha)
      have f0 := own_fz ho (m + 1)
      have hin2 := rnd_in seed (m + 1)
      have m3 := M.rowSet (i := 0) rfl (m + 1) (.int .i64 (rnd seed (m + 1) % P))
      rw [intVs_set] at m3
      have M3 := Lib.hid (show OMem w (wr.setCell ⟨B, m + 1, none⟩ (.int .i64 (rnd seed (m + 1) % P))) [.row 3 1 (.slice (some ⟨B, 0, none⟩) k k) k (intVs (L.set (m + 1) (rnd seed (m + 1) % P)))] from m3)
      have HN := Lib.hid (upto_set HL.out (cf_get hlt) (by omega))
      have HX := fun w => g_next (w := w) hin
      rw [show (1103515245 * rnd seed m + 12345) % 2147483648 = rnd seed (m + 1) from rfl] at HX
      have HX := Lib.hid HX
      have hL2 := hL
      have HL2 := Lib.hid hL2
      clear m3 ho ha M hL hL2
      go_wp2_with (go_at_call 27; refine (HX.out _).mono ?_; rintro e w3 ⟨rfl, rfl⟩; refine Hid.out ?_)
      refine Lib.hid ?_
      go_wp2
      go_roundw
      case rel => exact ⟨m + 1, _, by omega, rfl, by go_num, by rw [List.length_set]; exact HL2.out, HN, M3.out⟩
      case measure => simp [intOf]; omega
    · obtain rfl : k = m + 1 := by omega
      have hl : L = cf secret seed (m + 1) := upto_end (by rw [cf_len (by omega)]; exact HL.out) (by rw [hL, cf_len (by omega)])
      have HR := Lib.hid (IntsAt.keep (w := wr) (l := cf secret seed (m + 1)) (RowAt.of_own (by have := M.rowAt (i := 0) rfl; rw [hl] at this; rw [intVs_length, cf_len (by omega)]; exact this)) (Below.refl _ _))
      have HM := Lib.hid M.below
      clear M hl
      go_wp2
      go_ret
      exact ⟨_, rfl, HR.out, HM.out⟩
set_option maxHeartbeats 1000000 in
set_option maxRecDepth 100000 in
theorem g_value {v : Value} {cs : List Int} {x : Int} (hv : IntsAt w v cs) (hc : ∀ c ∈ cs, 0 ≤ c ∧ c < P) (hx : 0 ≤ x ∧ x ≤ 20) (hn : cs.length ≤ 100) :
    Calls Try.prog 21 #[v, .int .i64 x] w fun e w' => e = .returned (.int .i64 (ev cs x % P)) ∧ Below w.heap.size w w' := by
  obtain ⟨a, cap, rfl, hcell⟩ := hv.form
  have HC := Lib.hid hcell
  have HI := Lib.hid hc
  clear hcell hv hc
  go_enter Try.func21, Try.ntmps21
  go_wp2
  go_loopw [5, 6] (fun vv i wr => ∃ (m : Nat), m ≤ cs.length ∧ vv = .int .i64 (ev (cs.drop m) x % P) ∧ i = .int .i64 ((m : Int) - 1) ∧ Below w.heap.size w wr) (fun _ i _ => (intOf i + 1).toNat)
  case atStart => exact ⟨cs.length, Nat.le_refl _, by simp [ev], rfl, Below.refl _ _⟩
  case round =>
    obtain ⟨m, hm, rfl, rfl, hb⟩ := hrel
    have HB := Lib.hid hb
    by_cases h0 : 0 < m
    · obtain ⟨m, rfl⟩ : ∃ n, m = n + 1 := ⟨m - 1, by omega⟩
      obtain ⟨b, off, rfl, hc⟩ := HC.out m (by omega)
      have c0 := below_cell hc hb
      have hcm : cs[m]? = some cs[m] := List.getElem?_eq_getElem (by omega)
      have hin := HI.out _ (List.mem_of_getElem? hcm)
      have hev := ev_get hcm x
      generalize cs[m] = c at *
      have he := mod_in (ev (cs.drop (m + 1)) x)
      have HE := Lib.hid (show ((ev (cs.drop (m + 1)) x % P * x) % P + c) % P = ev (cs.drop m) x % P by rw [horner, ← hev])
      have hP := P_eq
      generalize ev (cs.drop (m + 1)) x % P = y at *
      have H1 := Lib.hid (fun w => Calls.same (g_times (w := w) (b := x) he (by omega)))
      have H2 := Lib.hid (fun w => Calls.same (g_plus (w := w) (a := y * x % P) (b := c) (by have := mod_in (y * x); omega) (by omega)))
      have hi : ((m + 1 : Nat) : Int) - 1 = (m : Int) := by omega
      clear hcm hev hc hb
      rw [hi]
      go_wp2
      go_quiet (first | (go_at_call 29; refine Calls.quiet_of_same (H1.out _)) | (go_at_call 28; refine Calls.quiet_of_same (H2.out _)))
      rw [HE.out]
      go_wp2
      go_roundw
      case rel => exact ⟨m, by omega, rfl, rfl, HB.out.trans ((drewN_below wr nq).mono HB.out.size)⟩
      case measure => simp only [intOf]; omega
    · obtain rfl : m = 0 := by omega
      have hi : ((0 : Nat) : Int) - 1 = -1 := rfl
      rw [hi]
      go_wp2
      go_ret
      exact ⟨rfl, HB.out⟩
/-- What Split returns. -/
def split (secret k n seed : Int) : List Pt × Int := if inF secret = true ∧ isN n = true ∧ 1 ≤ k ∧ k ≤ n then (sp secret seed k.toNat n.toNat, 0) else ([], 1)
theorem split_no {secret k n seed : Int} (h : ¬ (inF secret = true ∧ isN n = true ∧ 1 ≤ k ∧ k ≤ n)) : split secret k n seed = ([], 1) := if_neg h
theorem split_yes {secret k n seed : Int} (h : inF secret = true ∧ isN n = true ∧ 1 ≤ k ∧ k ≤ n) : split secret k n seed = (sp secret seed k.toNat n.toNat, 0) := if_pos h
theorem sp_get {secret seed : Int} {k n j : Nat} (h : j < n) : (sp secret seed k n)[j]? = some ((j : Int) + 1, ev (cf secret seed k) ((j : Int) + 1) % P) := by
  unfold sp
  rw [List.getElem?_map, List.getElem?_range h]; rfl
/-- What Split leaves: a slice, and an error. -/
def SplitPost (w : World) (r : List Pt × Int) (e : Ending) (w' : World) : Prop := ∃ v, e = .returned (.tuple #[v, .int .i64 r.2]) ∧ SharesAt w' v r.1 ∧ Below w.heap.size w w'
theorem nil_shares (w : World) : SharesAt w (.slice none 0 0) [] := ⟨none, 0, rfl, ⟨Nat.le_refl _, fun _ => rfl⟩, fun k u hk => by simp at hk⟩
theorem split_no_post {w : World} {secret k n seed : Int} (h : ¬ (inF secret = true ∧ isN n = true ∧ 1 ≤ k ∧ k ≤ n)) : SplitPost w (split secret k n seed) (.returned (.tuple #[.slice none 0 0, .int .i64 1])) w := by
  rw [split_no h]
  exact ⟨_, rfl, nil_shares w, Below.refl _ _⟩
theorem pt_set2 (L : List Pt) (k : Nat) (x y : Int) : ((ptVs L).set (k * 2) (.int .i64 x)).set (k * 2 + 1) (.int .i64 y) = ptVs (L.set k (x, y)) := (pt_set L k (x, y)).symm
set_option maxHeartbeats 1000000 in
set_option maxRecDepth 100000 in
theorem g_split (secret k n seed : Int) :
    Calls Try.prog 8 #[.int .i64 secret, .int .i64 k, .int .i64 n, .int .i64 seed] w (SplitPost w (split secret k n seed)) := by
  have HE := fun w1 => g_elem (w := w1) secret
  have HN := fun w1 => g_count (w := w1) n
  cases hs : inF secret with
  | false =>
    have HR := Lib.hid (split_no_post (w := w) (secret := secret) (k := k) (n := n) (seed := seed) (fun q => by rw [hs] at q; cases q.1))
    rw [hs] at HE
    have HE := Lib.hid HE
    clear hs HN
    go_enter Try.func8, Try.ntmps8
    go_wp2_with (go_at_call 18; refine (HE.out _).mono ?_; rintro e w2 ⟨rfl, rfl⟩; refine Hid.out ?_)
    refine Lib.hid ?_
    go_wp2
    go_ret2
    exact HR.out
  | true =>
    rw [hs] at HE
    have HE := Lib.hid HE
    cases hn : isN n with
    | false =>
      have HR := Lib.hid (split_no_post (w := w) (secret := secret) (k := k) (n := n) (seed := seed) (fun q => by rw [hn] at q; cases q.2.1))
      rw [hn] at HN
      have HN := Lib.hid HN
      clear hs hn
      go_enter Try.func8, Try.ntmps8
      go_wp2_with (go_at_call 18; refine (HE.out _).mono ?_; rintro e w2 ⟨rfl, rfl⟩; refine Hid.out ?_)
      refine Lib.hid ?_
      go_wp2_with (go_at_call 19; refine (HN.out _).mono ?_; rintro e w2 ⟨rfl, rfl⟩; refine Hid.out ?_)
      refine Lib.hid ?_
      go_wp2
      go_ret2
      exact HR.out
    | true =>
      rw [hn] at HN
      have HN := Lib.hid HN
      by_cases hk1 : 1 ≤ k
      case neg =>
        have HR := Lib.hid (split_no_post (w := w) (secret := secret) (k := k) (n := n) (seed := seed) (fun q => hk1 q.2.2.1))
        clear hs hn
        go_enter Try.func8, Try.ntmps8
        go_wp2_with (go_at_call 18; refine (HE.out _).mono ?_; rintro e w2 ⟨rfl, rfl⟩; refine Hid.out ?_)
        refine Lib.hid ?_
        go_wp2_with (go_at_call 19; refine (HN.out _).mono ?_; rintro e w2 ⟨rfl, rfl⟩; refine Hid.out ?_)
        refine Lib.hid ?_
        go_wp2
        go_ret2
        exact HR.out
      by_cases hk2 : k ≤ n
      case neg =>
        have HR := Lib.hid (split_no_post (w := w) (secret := secret) (k := k) (n := n) (seed := seed) (fun q => hk2 q.2.2.2))
        clear hs hn
        go_enter Try.func8, Try.ntmps8
        go_wp2_with (go_at_call 18; refine (HE.out _).mono ?_; rintro e w2 ⟨rfl, rfl⟩; refine Hid.out ?_)
        refine Lib.hid ?_
        go_wp2_with (go_at_call 19; refine (HN.out _).mono ?_; rintro e w2 ⟨rfl, rfl⟩; refine Hid.out ?_)
        refine Lib.hid ?_
        go_wp2
        go_ret2
        exact HR.out
      have HR := Lib.hid (split_yes (seed := seed) ⟨hs, hn, hk1, hk2⟩)
      have hs' := of_decide_eq_true hs
      have hn' := of_decide_eq_true hn
      obtain ⟨k, rfl⟩ : ∃ m : Nat, k = (m : Int) := ⟨k.toNat, by omega⟩
      obtain ⟨n, rfl⟩ : ∃ m : Nat, n = (m : Int) := ⟨n.toNat, by omega⟩
      have HI := Lib.hid (cf_in (seed := seed) (k := k) hs')
      have hk3 : 1 ≤ k := by omega
      have hk4 : k ≤ n := by omega
      have hn4 : n ≤ 20 := by omega
      clear hs hn hk1 hk2 hn'
      go_enter Try.func8, Try.ntmps8
      go_wp2_with (go_at_call 18; refine (HE.out _).mono ?_; rintro e w2 ⟨rfl, rfl⟩; refine Hid.out ?_)
      refine Lib.hid ?_
      go_wp2_with (go_at_call 19; refine (HN.out _).mono ?_; rintro e w2 ⟨rfl, rfl⟩; refine Hid.out ?_)
      refine Lib.hid ?_
      go_wp2_with (go_at_call 20; refine (g_poly seed (k := k) hk3 (by omega)).mono ?_; rintro e w3 ⟨v, rfl, hv, hb3⟩; refine Hid.out ?_)
      refine Lib.hid ?_
      obtain ⟨w4, hr4, ho4, hg4⟩ := make_shares w3 n (by omega)
      have HV := Lib.hid hv
      have HB3 := Lib.hid hb3
      have M4 := Lib.hid (show OMem w3 w4 [.row 39 2 (.slice (some ⟨w3.heap.size, 0, none⟩) n n) n (ptVs (List.replicate n (0, 0)))] from (OMem.start w3).rowMade hg4 ho4)
      clear hv hb3 ho4 hg4 HE HN
      go_wp2
      generalize w3.heap.size = B at *
      clear hr4
      go_loopw [38] (fun i wr => ∃ (m : Nat) (L : List Pt), m ≤ n ∧ i = .int .i64 (m : Int) ∧ L.length = n ∧ Hid (Upto L (sp secret seed k n) m) ∧ OMem w3 wr [.row 39 2 (.slice (some ⟨B, 0, none⟩) n n) n (ptVs L)]) (fun i _ => n - (intOf i).toNat)
      case atStart => exact ⟨0, _, Nat.zero_le _, rfl, by simp, Lib.hid (fun j hj => by omega), M4.out⟩
      case round =>
        obtain ⟨m, L, hm, rfl, hL, HU, M⟩ := hrel
        have HL := Lib.hid hL
        by_cases hlt : m < n
        · have HG := Lib.hid (g_value (x := (m : Int) + 1) (HV.out.keep M.below) HI.out (by omega) (by rw [cf_len hk3]; omega))
          obtain ⟨p, hp⟩ : ∃ p, L[m]? = some p := ⟨_, List.getElem?_eq_getElem (by omega)⟩
          have HP := Lib.hid hp
          have HM := Lib.hid M
          have HN := Lib.hid (upto_set HU.out (sp_get (secret := secret) (seed := seed) (k := k) hlt) (by omega))
          clear hp hL
          go_wp2_with (go_at_call 21; refine (HG.out).mono ?_; rintro e w5 ⟨rfl, hb5⟩; refine Hid.out ?_)
          refine Lib.hid ?_
          have M5 := HM.out.fresh hb5
          have ho := M5.rowAt (i := 0) rfl
          have c0 := own_at ho (pt_at HP.out).1
          have c1 := own_at ho (pt_at HP.out).2
          have f0 := own_fz ho (m * 2)
          have f1 := own_fz ho (m * 2 + 1)
          have m6 := (M5.rowSet (i := 0) rfl (m * 2) (.int .i64 ((m : Int) + 1))).rowSet (i := 0) rfl (m * 2 + 1) (.int .i64 (ev (cf secret seed k) ((m : Int) + 1) % P))
          rw [pt_set2] at m6
          have M6 := Lib.hid (show OMem w3 _ [.row 39 2 (.slice (some ⟨B, 0, none⟩) n n) n (ptVs (L.set m ((m : Int) + 1, ev (cf secret seed k) ((m : Int) + 1) % P)))] from m6)
          clear ho m6 M5 M hb5 HG
          go_wp2
          go_roundw
          case rel => exact ⟨m + 1, _, by omega, by go_num, by rw [List.length_set]; exact HL.out, HN, M6.out⟩
          case measure => simp [intOf]; omega
        · obtain rfl : n = m := by omega
          have hl : L = sp secret seed k n := upto_end (by rw [sp_len]; exact HU.out) (by rw [hL, sp_len])
          have HS := Lib.hid (SharesAt.of_own (l := sp secret seed k n) (by have := M.rowAt (i := 0) rfl; rw [hl] at this; exact this))
          have HM := Lib.hid (HB3.out.trans (M.below.mono HB3.out.size))
          clear M hl
          go_wp2
          go_ret2
          unfold SplitPost
          rw [HR.out]
          exact ⟨_, rfl, HS.out, HM.out⟩
end
end Go.Proofs.Ytemokedoeneibaa
