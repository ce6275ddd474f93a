/- reach: the nodes that are met. -/
import Derived.Test.YtihnnffhpgbgjaaPvalid
import Derived.Test.YtihnnffhpgbgjaaPrch
import Derived.Test.YtihnnffhpgbgjaaPshl
namespace Go.Proofs.Ytihnnffhpgbgjaa
open Go.RowKit Go.Maps Go.ChangeMaps Go.MapKept
open Gp
attribute [local go_sem ↓] Go.wp_at_zero Go.wp_at_succ

/-- A set of numbers as a map. -/
def setM (M : List Int) (x : Int) : Option Value := if x ∈ M then some (.bool true) else none
theorem setM_snoc (M : List Int) (x : Int) : (fun y => if y = x then some (.bool true) else setM M y) = setM (M ++ [x]) := by
  funext y
  unfold setM
  by_cases h : y = x
  · subst h; simp
  · simp [h]
theorem setM_get (M : List Int) (x : Int) : (setM M x).getD (.bool false) = .bool (M.contains x) := by
  unfold setM
  by_cases h : x ∈ M
  · simp [h]
  · simp [h]
theorem own_cap {w : World} {a : Option Addr} {c n : Nat} {e : TypeId} {size : Nat} {xs : List Value} (h : w.ownsRow 0 e size (.slice a n c) n xs) (h0 : 0 < n) : n ≤ c := by
  rcases h.2 with ⟨h1, h2⟩ | ⟨g, cap, cur, h1, h2, h3, h4, _⟩
  · omega
  · cases h1; exact h4
theorem own_init {w : World} {a : Option Addr} {c n : Nat} {e : TypeId} {xs : List Value} {x : Value} (h : w.ownsRow 0 e 1 (.slice a (n + 1) c) (n + 1) (xs ++ [x])) : w.ownsRow 0 e 1 (.slice a n c) n xs := by
  have hl := h.1
  rw [List.length_append] at hl
  simp at hl
  refine ⟨by omega, .inr ?_⟩
  rcases h.2 with ⟨h1, _⟩ | ⟨g, cap, cur, h1, h2, h3, h4, h5, h6, h7⟩
  · cases h1
  · cases h1
    refine ⟨g, c, cur, rfl, h2, h3, by omega, h5, h6, ?_⟩
    have := congrArg (List.take n) h7
    rw [List.take_take] at this
    rw [show n * 1 = min n ((n + 1) * 1) by omega, this, List.take_append_of_le_length (by omega), List.take_of_length_le (by omega)]
def vlen : Value → Nat
  | .slice _ n _ => n
  | _ => 0
def msz (w : World) (b : Nat) : Nat := match w.heap[b]? with | some (.map es _) => es.size | _ => 0
theorem IMap.msz {w : World} {b c : Nat} {m : Int → Option Value} (h : IMap w b c m) : msz w b = c := by
  obtain ⟨D, ⟨es, clock, hb, F, hs, rfl⟩, hc, _⟩ := h.is
  have e1 : Maps.size (DataW.map ((es.toList.map (Go.WideElems.rg Try.prog 3 rawE)).foldr DataW.insert [])) = es.size := by simp [Maps.size, length_sorted]
  rw [e1] at hc
  show (match w.heap[b]? with | some (.map es _) => es.size | _ => 0) = c
  rw [hb]; exact hc
theorem take_split {T : List Int} (h : 0 < T.length) : ∃ T' x, T = T' ++ [x] ∧ T[T.length - 1]? = some x := by
  refine ⟨T.dropLast, T.getLast (List.length_pos_iff.1 h), (List.dropLast_concat_getLast _).symm, ?_⟩
  rw [List.getLast_eq_getElem, List.getElem?_eq_getElem (by omega)]
section
variable {w : World} {b mb : Nat} {G : List Nd} {pv : Int → Value} {S : Nat → Prop}
set_option maxHeartbeats 4000000 in
set_option maxRecDepth 100000 in
theorem reach_in (h : GIn w b mb G pv S) {v : Value} {xs : List Int} (hv : NumsAt w v xs) (hx : xs.length ≤ 1000) (hG : G.length ≤ 100) (least : Int) :
    Calls Try.prog 42 #[.pointer (some ⟨b, 0, none⟩), v, .int .i64 least] w fun e w' => ∃ mm M, e = .returned (.map (some mm)) ∧ w.heap.size ≤ mm ∧ IMap w' mm M.length (setM M) ∧ (M.Nodup ∧ ∀ x, x ∈ M ↔ least ≤ x ∧ x ∈ down G xs) ∧ Below w.heap.size w w' := by
  have HG := Lib.hid h
  have hb1 := (Below.refl w.heap.size w).alloc (Nat.le_refl _) (.map #[] 0)
  have HC := Lib.hid (clone_any (hv.keep hb1) hx)
  have M0 := Lib.hid (iMap_made w)
  have B1 := Lib.hid hb1
  have hmm := @run_makeMap Try.prog
  clear h hv hb1
  go_enter Try.func42, Try.ntmps42
  go_wp2_with (go_at_call 39; refine (HC.out).mono ?_; rintro e w2 ⟨v2, rfl, o2, n2, b2⟩; refine Hid.out ?_)
  refine Lib.hid ?_
  have hs1 : (w.alloc (.map #[] 0)).heap.size = w.heap.size + 1 := by simp
  have M2 := Lib.hid (M0.out.block (b2.block _ (by omega)))
  have B2 := Lib.hid (B1.out.trans (b2.mono (by omega)))
  have O2 := Lib.hid o2
  have N2 := Lib.hid (fun x hx => (by have := n2 x hx; omega : w.heap.size < x))
  clear HC M0 o2 b2 n2
  go_wp2
  go_loopw [8] (fun tv wr => ∃ (a : Option Addr) (c n : Nat) (M T : List Int), tv = .slice a n c ∧ Hid (T.length = n) ∧ Hid (Rch G xs least M T) ∧ Hid (wr.ownsRow 0 3 1 (.slice a n c) n (intVs T)) ∧ Hid (∀ x, (Value.slice a n c).ownBlock = some x → w.heap.size < x) ∧
    Hid (IMap wr w.heap.size M.length (setM M)) ∧ Hid (Below w.heap.size w wr) ∧ n + (100 - M.length) * 101 ≤ 20000) (fun tv wr => vlen tv + (100 - msz wr w.heap.size) * 101)
  case atStart =>
    obtain ⟨a, c, hv⟩ := own_form O2.out
    subst hv
    exact ⟨a, c, xs.length, [], xs, rfl, Lib.hid rfl, Lib.hid rch_start, O2, N2, Lib.hid (M2.out.congr (fun x => by simp [setM]) rfl), B2, by simp; omega⟩
  case round =>
    obtain ⟨a, c, n, M, T, rfl, HT, HR, HO, HN, HM, HB, hsz⟩ := hrel
    by_cases h0 : 0 < n
    · obtain ⟨k, rfl⟩ : ∃ k, n = k + 1 := ⟨n - 1, by omega⟩
      obtain ⟨T', x, hTx, _⟩ := take_split (T := T) (by rw [HT.out]; omega)
      have HX := Lib.hid hTx
      have hk : T'.length = k := by have := HT.out; rw [hTx] at this; simp at this; omega
      obtain ⟨g, c', e1⟩ := own_some HO.out (by omega)
      cases e1
      have hcap := own_cap HO.out (by omega)
      have hc := own_at HO.out (j := k) (y := .int .i64 x) (by rw [hTx, ← hk]; simp [intVs])
      have HI := Lib.hid (own_init (x := .int .i64 x) (xs := intVs T') (by have := HO.out; rw [hTx] at this; simpa [intVs] using this))
      have hq := (HM.out.look_ok (t := 60) (e := 4) Try.underlying60 (Try.zeroValue4 wr) x).2
      rw [setM_get] at hq
      have HK := Lib.hid hk
      clear hTx hk
      by_cases hl : least ≤ x
      · by_cases hm : x ∈ M
        · rw [show M.contains x = true by simpa using hm] at hq
          have HR2 := Lib.hid (Rch.skip (by have := HR.out; rw [HX.out] at this; exact this) (.inr (.inl hm)) HG.out.ok)
          clear hm
          go_wp2
          go_roundw
          case rel => exact ⟨_, _, k, M, T', rfl, HK, HR2, HI, HN, HM, HB, by omega⟩
          case measure => simp only [vlen]; omega
        · rw [show M.contains x = false by simpa using hm] at hq
          have HH := Lib.hid (has_in (HG.out.keep HB.out) x)
          by_cases hi : x ∈ ids G
          · rw [show (ids G).contains x = true by simpa using hi] at HH
            have HR2 := Lib.hid (Rch.take (by have := HR.out; rw [HX.out] at this; exact this) hl hm hi)
            have hwf := wf_of (HG.out.ok.range hi).1 (HG.out.ok.range hi).2
            have hlm : M.length < G.length := by
              have := HR2.out.len; rw [List.length_append] at this; simp at this; omega
            have hpl := par_few HG.out.ok x
            have HNM := Lib.hid (show setM M x = none by unfold setM; rw [if_neg hm])
            clear hm hi
            go_wp2_with (go_at_call 11; refine (HH.out).mono ?_; rintro e w3 ⟨rfl, g3⟩; refine Hid.out ?_)
            refine Lib.hid ?_
            have HNk : Hid (∀ y, (Value.slice (some ⟨g, 0, none⟩) k c).ownBlock = some y → w.heap.size < y) := HN
            clear HN hc HO
            generalize Value.slice (some (⟨g, 0, none⟩ : Addr)) k c = vt at HNk HI ⊢
            have HN := HNk
            have HI3 := Lib.hid (ownsRow_block HI.out fun y hy => g3.1.block y (HI.out.lt y hy).2)
            have HM3 := Lib.hid (HM.out.block (g3.1.block _ HM.out.lt))
            have HB3 := Lib.hid (HB.out.trans (g3.1.mono HB.out.size))
            obtain ⟨w4, hu, m4, g4⟩ := HM3.out.store (t := 60) (e := 4) Try.underlying60 (by unfold maxLen; omega) hwf (.bool true) HNM.out
            have hw0 := HB3.out.size
            have hlt := HI3.out.lt
            have HM4 := Lib.hid m4
            have HI4 := Lib.hid (ownsRow_block HI3.out fun y hy => g4.block y (hlt y hy).2 (fun q => by have := HN.out y hy; cases q; omega))
            have HB4 := Lib.hid (below_grown HB3.out g4 fun y hy => (by cases hy; exact Nat.le_refl _))
            have HG4 := Lib.hid (HG.out.keep HB4.out)
            have c0 := HG4.out.c0
            obtain ⟨pa, pc, pl, ⟨_, hlook⟩, hnums, _⟩ := HG4.out.look x
            obtain ⟨a5, c5, w5, hap, o5, g5, hb5⟩ := run_pushN w4 _ _ T' (par G x) (by rw [HK.out]; exact HI4.out) hnums (by rw [HK.out]; omega)
            rw [HK.out] at hap o5 hb5
            have HS4 := HB4.out.size
            have HM5 := Lib.hid (((HM4.out.block (g5.block _ HM4.out.lt (fun q => by have := HN.out _ q.symm; omega))).congr (fun y => (congrFun (setM_snoc M x) y).symm) (by simp : (M ++ [x]).length = M.length + 1)))
            have HB5 := Lib.hid (below_grown HB4.out g5 fun y hy => Nat.le_of_lt (HN.out y hy))
            have HN5 := Lib.hid (show ∀ y, (Value.slice a5 (k + (par G x).length) c5).ownBlock = some y → w.heap.size < y from fun y hy => by
              rcases hb5 with q | q
              · exact HN.out y (q.symm.trans hy)
              · have := q.symm.trans hy; cases this
                have := g4.size; have := HM3.out.lt; omega)
            have hfld := field_par pa (par G x).length pc pl w4
            generalize Value.slice pa (par G x).length pc = vu at hlook hfld hap hnums
            have HAP := Lib.hid hap
            have HT5 := Lib.hid (show (T' ++ par G x).length = k + (par G x).length by rw [List.length_append, HK.out])
            have HO5 := Lib.hid o5
            clear HH hq g3 m4 g4 hnums o5 hb5 hlt g5 hwf hap
            go_wp2_with (at_builtin; refine Hid.out ?_)
            refine Lib.hid ?_
            refine Lib.wpList_append_run _ rfl _ _ _ _ rfl _ _ rfl rfl _ _ HAP.out ?_
            go_wp2
            go_roundw
            case rel => exact ⟨a5, c5, _, M ++ [x], T' ++ par G x, rfl, HT5, HR2, HO5, HN5, HM5, HB5, by rw [List.length_append, List.length_singleton]; omega⟩
            case measure => simp only [vlen, HM5.out.msz, HM.out.msz, List.length_append, List.length_singleton]; omega
          · rw [show (ids G).contains x = false by simpa using hi] at HH
            have HR2 := Lib.hid (Rch.skip (by have := HR.out; rw [HX.out] at this; exact this) (.inr (.inr hi)) HG.out.ok)
            clear hm hi
            go_wp2_with (go_at_call 11; refine (HH.out).mono ?_; rintro e w3 ⟨rfl, g3⟩; refine Hid.out ?_)
            refine Lib.hid ?_
            have HI3 := Lib.hid (ownsRow_block HI.out fun y hy => g3.1.block y (HI.out.lt y hy).2)
            have HM3 := Lib.hid (HM.out.block (g3.1.block _ HM.out.lt))
            have HB3 := Lib.hid (HB.out.trans (g3.1.mono HB.out.size))
            clear HH g3 hq
            go_wp2
            go_roundw
            case rel => exact ⟨_, _, k, M, T', rfl, HK, HR2, HI3, HN, HM3, HB3, by omega⟩
            case measure => simp only [vlen, HM3.out.msz, HM.out.msz]; omega
      · have HR2 := Lib.hid (Rch.skip (by have := HR.out; rw [HX.out] at this; exact this) (.inl (by omega)) HG.out.ok)
        go_wp2
        go_roundw
        case rel => exact ⟨_, _, k, M, T', rfl, HK, HR2, HI, HN, HM, HB, by omega⟩
        case measure => simp only [vlen]; omega
    · obtain rfl : n = 0 := by omega
      have hT := List.length_eq_zero_iff.1 HT.out
      subst hT
      have HD := Lib.hid (HR.out.done HG.out.ok)
      go_wp2
      go_ret
      exact ⟨w.heap.size, M, rfl, Nat.le_refl _, HM.out, ⟨HR.out.nd, HD.out⟩, HB.out⟩
end
end Go.Proofs.Ytihnnffhpgbgjaa
