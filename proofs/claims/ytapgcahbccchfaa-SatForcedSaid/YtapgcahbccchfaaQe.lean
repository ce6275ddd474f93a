/- The reference: Follows, Forced. -/
import Derived.Test.YtapgcahbccchfaaQd
namespace Go.Proofs.Ytapgcahbccchfaa
open Go.RowKit Go.Maps Go.ChangeMaps Go.MapKept
open St
attribute [local go_sem ↓] Go.wp_at_zero Go.wp_at_succ

theorem fol_right {l : List Cl} {n : Int} {xs : List Int} (h : right l n = false) : follows l n xs = false := by unfold follows; rw [h]; rfl
def anyT (vs : List Bool) (xs : List Int) (i : Nat) : Bool := (xs.take i).any (tru vs)
theorem anyT_next {vs : List Bool} {xs : List Int} {i : Nat} {x : Int} (h : xs[i]? = some x) : anyT vs xs (i + 1) = (anyT vs xs i || tru vs x) := by
  unfold anyT; rw [List.take_add_one, h, List.any_append]; simp
theorem anyT_all {vs : List Bool} {xs : List Int} : anyT vs xs xs.length = true ↔ ∃ x ∈ xs, tru vs x = true := by
  unfold anyT; rw [List.take_length, List.any_eq_true]
section
variable {w : World}
set_option maxHeartbeats 4000000 in
set_option maxRecDepth 100000 in
theorem q_follows {v u : Value} {l : List Cl} {n : Int} {xs : List Int} (hv : ClAt w v l) (hl : l.length ≤ 100000) (hu : NumsAt w u xs) (hxs : xs.length ≤ 1000) (hn : n ≤ 9 ∨ 400 < n) :
    Calls Try.prog 16 #[v, .int .i64 n, u] w fun e w' => e = .returned (.bool (follows l n xs)) ∧ Below w.heap.size w w' := by
  have HV := Lib.hid hv
  have HU := Lib.hid hu
  have HQ := Lib.hid (q_right (n := n) hv hl)
  obtain ⟨ua, uc, rfl⟩ := hu.slice
  clear hu
  go_enter Try.func16, Try.ntmps16
  cases hr : right l n with
  | false =>
    have HR := Lib.hid (fol_right (xs := xs) hr)
    rw [hr] at HQ
    clear hr
    go_wp2_with (go_at_call 10; refine (HQ.out).mono ?_; rintro e w2 ⟨rfl, rfl⟩; refine Hid.out ?_)
    refine Lib.hid ?_
    go_wp2
    go_ret
    exact ⟨ret_bool HR.out.symm, Below.refl _ _⟩
  | true =>
    have HRI := Lib.hid hr
    have hn2 := (right_iff.1 hr).1
    rw [hr] at HQ
    clear hr
    obtain ⟨m, rfl⟩ : ∃ m : Nat, n = (m : Int) := ⟨n.toNat, by omega⟩
    have hm : m ≤ 9 := by omega
    go_wp2_with (go_at_call 10; refine (HQ.out).mono ?_; rintro e w2 ⟨rfl, rfl⟩; refine Hid.out ?_)
    refine Lib.hid ?_
    go_wp2
    go_loopw [7] (fun i wr => ∃ k : Nat, k ≤ xs.length ∧ i = .int .i64 k ∧ Hid (∀ x ∈ xs.take k, 0 ≤ x ∧ x < 2 * (m : Int)) ∧ w = wr) (fun i _ => xs.length - (RowKit.intOf i).toNat)
    case atStart => exact ⟨0, Nat.zero_le _, rfl, Lib.hid (by simp), rfl⟩
    case round =>
      obtain ⟨k, hk, rfl, HT, rfl⟩ := hrel
      by_cases hlt : k < xs.length
      · obtain ⟨x, hx⟩ : ∃ c, xs[k]? = some c := ⟨_, List.getElem?_eq_getElem hlt⟩
        have HX := Lib.hid hx
        obtain ⟨b, off, cap', h1, _, hcs⟩ := HU.out.form (by omega)
        cases h1
        have c0 := hcs k x hx
        clear hcs hx
        by_cases hx0 : x < 0
        · have HR := Lib.hid (follows_bad (List.mem_of_getElem? HX.out) (fun q => by omega) : follows l (m : Int) xs = false)
          go_wp2
          go_ret
          exact ⟨ret_bool HR.out.symm, Below.refl _ _⟩
        · by_cases hx1 : 2 * (m : Int) ≤ x
          · have HR := Lib.hid (follows_bad (List.mem_of_getElem? HX.out) (fun q => by omega) : follows l (m : Int) xs = false)
            go_wp2
            go_ret
            exact ⟨ret_bool HR.out.symm, Below.refl _ _⟩
          · have HT2 := Lib.hid (take_all HT.out HX.out (show 0 ≤ x ∧ x < 2 * (m : Int) by omega))
            go_wp2
            go_roundw
            case rel => exact ⟨k + 1, by omega, by go_num, HT2, by trivial⟩
            case measure => (simp [RowKit.intOf]; try omega)
      · obtain rfl : k = xs.length := by omega
        have ht := HT.out
        rw [List.take_length] at ht
        have HLT := Lib.hid ht
        have HFA := Lib.hid (follows_aft (n := m) HRI.out (lits_iff.2 ht))
        have hp : 2 ^ m ≤ 512 := Nat.pow_le_pow_right (by decide) hm
        obtain ⟨N, hN⟩ : ∃ N, 2 ^ m = N := ⟨_, rfl⟩
        have hw : wrap64 ((2 : Int) ^ m) = (N : Int) := by
          rw [← hN]
          have e : ((2 : Int) ^ m) = ((2 ^ m : Nat) : Int) := by rw [Int.natCast_pow]; rfl
          rw [e]; unfold wrap64; omega
        rw [hN] at hp HFA
        clear hN HT ht hlt hk
        go_wp2
        go_loopw [8] (fun i wr => ∃ k : Nat, k ≤ N ∧ i = .int .i64 k ∧ Hid (∀ j, j < k → check l (m : Int) (aft m j) = true → ∃ x ∈ xs, tru (aft m j) x = true) ∧ Hid (Below w.heap.size w wr)) (fun i _ => N - (RowKit.intOf i).toNat)
        case atStart => exact ⟨0, Nat.zero_le _, rfl, Lib.hid (fun j h => by omega), Lib.hid (Below.refl _ _)⟩
        case round =>
          obtain ⟨k, hk, rfl, HT, HB⟩ := hrel
          by_cases hlt : k < N
          · have HA := Lib.hid (q_after (w := wr) (n := m) (k := k) (by omega) (by omega))
            have hlen := aft_len m k
            go_wp2_with (go_at_call 33; refine (HA.out).mono ?_; rintro e w2 ⟨t, rfl, ht, b2⟩; refine Hid.out ?_)
            refine Lib.hid ?_
            have HB2 := Lib.hid (HB.out.trans (b2.mono HB.out.size))
            have HC := Lib.hid (q_check (n := (m : Int)) (HV.out.keep HB2.out) hl ht (by rw [hlen]; omega))
            have HTR := Lib.hid (show ∀ x, x ∈ xs → Calls Try.prog 25 #[t, .int .i64 x] w2 fun e w' => e = .returned (.bool (tru (aft m k) x)) ∧ w2 = w' from fun x hx => q_true ht (by rw [hlen]; exact HLT.out x hx) (by rw [hlen]; omega))
            clear ht b2 HA hlen
            have HCK := Lib.hid (show ∀ c : Bool, check l (m : Int) (aft m k) = c → (!c || anyT (aft m k) xs xs.length) = true → ∀ j, j < k + 1 → check l (m : Int) (aft m j) = true → ∃ x ∈ xs, tru (aft m j) x = true from fun c hc ha j hj => by
              by_cases e : j = k
              · subst e
                intro hq
                rw [hc] at hq; subst hq
                exact anyT_all.1 (by simpa using ha)
              · exact HT.out j (by omega))
            have HNO := Lib.hid (show ∀ c : Bool, check l (m : Int) (aft m k) = c → (!c || anyT (aft m k) xs xs.length) = false → follows l (m : Int) xs = false from fun c hc ha => by
              cases hf : follows l (m : Int) xs with
              | false => rfl
              | true =>
                cases c with
                | false => cases ha
                | true =>
                  have := anyT_all.2 (HFA.out.1 hf k hlt hc)
                  rw [this] at ha; cases ha)
            have h0 : anyT (aft m k) xs 0 = false := by simp [anyT]
            have H0 := Lib.hid h0
            have HNX := Lib.hid (fun (i : Nat) (x : Int) (h : xs[i]? = some x) => anyT_next (vs := aft m k) h)
            clear h0
            obtain ⟨ck, hck⟩ : ∃ c, check l (m : Int) (aft m k) = c := ⟨_, rfl⟩
            have HCK := Lib.hid (HCK.out ck hck)
            have HNO := Lib.hid (HNO.out ck hck)
            rw [hck] at HC
            clear hck
            generalize aft m k = vs at *
            go_wp2_with (go_at_call 12; refine (HC.out).mono ?_; rintro e w3 ⟨rfl, rfl⟩; refine Hid.out ?_)
            refine Lib.hid ?_
            go_wp2
            rename World => w5
            go_loopw [10, 11] (fun o i wr => ∃ j : Nat, j ≤ xs.length ∧ i = .int .i64 j ∧ o = .bool (!ck || anyT vs xs j) ∧ w5 = wr) (fun _ i _ => xs.length - (RowKit.intOf i).toNat)
            case atStart => exact ⟨0, Nat.zero_le _, rfl, by rw [H0.out]; simp, rfl⟩
            case round =>
              obtain ⟨j, hj, rfl, rfl, rfl⟩ := hrel
              by_cases hltj : j < xs.length
              · obtain ⟨x, hx⟩ : ∃ c, xs[j]? = some c := ⟨_, List.getElem?_eq_getElem hltj⟩
                obtain ⟨b, off, cap', h1, _, hcs⟩ := (HU.out.keep HB2.out).form (by omega)
                cases h1
                have c0 := hcs j x hx
                have HN := HNX.out j x hx
                have HTX := HTR.out x (List.mem_of_getElem? hx)
                clear hcs hx
                cases ho : (!ck || anyT vs xs j) with
                | true =>
                  have HN2 := Lib.hid (show (!ck || anyT vs xs (j + 1)) = true by rw [HN, ← Bool.or_assoc, ho]; rfl)
                  clear HN HTX ho
                  go_wp2
                  go_roundw
                  case rel => exact ⟨j + 1, by omega, by go_num, by rw [HN2.out], by trivial⟩
                  case measure => (simp [RowKit.intOf]; try omega)
                | false =>
                  have HN2 := Lib.hid (show (!ck || anyT vs xs (j + 1)) = tru vs x by rw [HN, ← Bool.or_assoc, ho]; rfl)
                  have HTX := Lib.hid HTX
                  clear HN ho
                  go_wp2_with (go_at_call 25; refine (HTX.out).mono ?_; rintro e w4 ⟨rfl, rfl⟩; refine Hid.out ?_)
                  refine Lib.hid ?_
                  go_wp2
                  go_roundw
                  case rel => exact ⟨j + 1, by omega, by go_num, by rw [HN2.out], by trivial⟩
                  case measure => (simp [RowKit.intOf]; try omega)
              · obtain rfl : j = xs.length := by omega
                cases ho : (!ck || anyT vs xs xs.length) with
                | true =>
                  have HT2 := Lib.hid (HCK.out ho)
                  clear ho
                  go_wp2
                  go_roundw
                  case rel => exact ⟨k + 1, by omega, by go_num, HT2, HB2⟩
                  case measure => (simp [RowKit.intOf]; try omega)
                | false =>
                  have HR := Lib.hid (HNO.out ho)
                  clear ho
                  go_wp2
                  go_ret
                  exact ⟨ret_bool HR.out.symm, HB2.out⟩
          · obtain rfl : k = N := by omega
            have HR := Lib.hid (HFA.out.2 HT.out)
            clear HFA
            go_wp2
            go_ret
            exact ⟨ret_bool HR.out.symm, HB.out⟩
end
end Go.Proofs.Ytapgcahbccchfaa
