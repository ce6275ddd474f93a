/- What the statements of layer 6 call besides: numbers, chosen. -/
import Derived.Test.YtemokedoeneibaaSSmall
import Derived.OwnWalk
namespace Go.Proofs.Ytemokedoeneibaa
open Go.RowKit Go.Maps Go.ChangeMaps Go.MapKept
open Sp
attribute [local go_sem ↓] Go.wp_at_zero Go.wp_at_succ

/-- How many shares there are, how many are enough. -/
def many (n : Nat) : Nat := 1 + n % 20
def need (k n : Nat) : Nat := 1 + k % many n
theorem need_ok (k n : Nat) : 1 ≤ need k n ∧ need k n ≤ many n ∧ many n ≤ 20 := by
  have h1 : n % 20 < 20 := Nat.mod_lt _ (by decide)
  have h2 : k % many n < many n := Nat.mod_lt _ (by unfold many; omega)
  refine ⟨by unfold need; omega, by unfold need; omega, by unfold many; omega⟩
def byVs (l : List Int) : List Value := l.map (.int .u8)
def BytesAt (w : World) (v : Value) (l : List Int) : Prop := RowAt w v (byVs l) ∧ ∀ z ∈ l, 0 ≤ z ∧ z ≤ 255
theorem BytesAt.keep {w w' : World} {v : Value} {l : List Int} (h : BytesAt w v l) (hb : Below w.heap.size w w') : BytesAt w' v l := ⟨h.1.keep hb, h.2⟩
theorem BytesAt.form {w : World} {v : Value} {l : List Int} (h : BytesAt w v l) : ∃ a cap, v = .slice a l.length cap ∧ ∀ k z, l[k]? = some z → ∃ b off, a = some ⟨b, off, none⟩ ∧ w.cell? ⟨b, off + k, none⟩ = some (.int .u8 z) := by
  obtain ⟨⟨a, cap, hv, hc⟩, _⟩ := h
  rw [show (byVs l).length = l.length by simp [byVs]] at hv
  exact ⟨a, cap, hv, fun k z hk => hc k _ (by simp [byVs, hk])⟩
/-- Whether a share was chosen before. -/
def Known (b : Bool) (q : Pt) (L : List Pt) : Prop := b = true ↔ q ∈ L
section
variable {w0 w : World} {os : List Ob} {i : Nat} {v : Value} {ks : List Pt}
theorem OMem.push1 (h : OMem w0 w os) (hi : os[i]? = some (.row 39 2 v ks.length (ptVs ks))) (p : Pt) (hn : ks.length ≤ 1000) :
    ∃ a c w', (Builtin.append_ #[22, 22] 22 #[v, .slice (some ⟨w.heap.size, 0, none⟩) 1 1]).run Try.prog (w.alloc (.cells #[.int .i64 p.1, .int .i64 p.2] 39)) = .ok (.slice a (ks.length + 1) c) w' ∧
      OMem w0 w' (os.set i (.row 39 2 (.slice a (ks.length + 1) c) (ks.length + 1) (ptVs (ks ++ [p])))) := by
  have hb2 := (Below.refl w.heap.size w).alloc (Nat.le_refl _) (.cells #[.int .i64 p.1, .int .i64 p.2] 39)
  have h2 := h.fresh hb2
  obtain ⟨a, c, w', r1, r2, r3, r4⟩ := run_push _ v _ ks [p] (h2.rowAt hi) (SharesAt.of_own (own_one w p)) (by simp; omega)
  have e : ks.length + [p].length = ks.length + 1 := by simp
  rw [e] at r1 r2 r4
  exact ⟨a, c, w', r1, h2.rowGrow hi r3 r2 r4⟩
end
section
variable {w : World}
set_option maxHeartbeats 1000000 in
set_option maxRecDepth 100000 in
theorem numbers_any (s : Int) (K N : Nat) (hK : K ≤ 255) (hN : N ≤ 255) :
    Calls Try.prog 15 #[.int .i64 s, .int .u8 (K : Int), .int .u8 (N : Int)] w fun e w' => e = .returned (.tuple #[.int .i64 (s % P), .int .i64 (need K N : Int), .int .i64 (many N : Int)]) ∧ Below w.heap.size w w' := by
  have H1 := Lib.hid (fun w => Calls.same (g_mod (w := w) s))
  have e1 : (1 : Int) + (N : Int) % 20 = (many N : Int) := by unfold many; omega
  have e2 : (1 : Int) + (K : Int) % (many N : Int) = (need K N : Int) := by unfold need; omega
  have hm := need_ok K N
  have E1 := Lib.hid e1
  have E2 := Lib.hid e2
  clear e1 e2
  go_enter Try.func15, Try.ntmps15
  go_wp2
  rw [E1.out]
  have hm0 : ((many N : Nat) : Int) ≠ 0 := by omega
  have ht : ((K : Int)).tmod ((many N : Nat) : Int) = (K : Int) % ((many N : Nat) : Int) := Int.tmod_eq_emod_of_nonneg (by omega)
  have hw1 : IntKind.i64.wrap (1 + (K : Int) % ((many N : Nat) : Int)) = ((need K N : Nat) : Int) := by
    rw [IntKind.wrap_i64, E2.out]
    have h1 := hm.1
    have h2 := hm.2.1
    have h3 := hm.2.2
    omega
  go_quiet (first | (go_at_call 16; refine Calls.quiet_of_same (H1.out _)))
  clear hw1 ht
  go_wp2
  go_ret3
  exact ⟨rfl, drewN_below w nq⟩
set_option maxHeartbeats 2000000 in
set_option maxRecDepth 100000 in
theorem chosen_any {v u : Value} {l : List Pt} {o : List Int} (hv : SharesAt w v l) (hu : BytesAt w u o) (h0 : 0 < l.length) (hn : l.length ≤ 100) (ho : o.length ≤ 100) :
    Calls Try.prog 17 #[v, u] w fun e w' => ∃ x m, e = .returned x ∧ SharesAt w' x m ∧ (m.Nodup ∧ (∀ q ∈ m, q ∈ l) ∧ m.length ≤ o.length) ∧ Below w.heap.size w w' := by
  have HV := Lib.hid hv
  have HU := Lib.hid hu
  obtain ⟨b, off, cap, rfl, _, _⟩ := hv.form h0
  obtain ⟨a2, cap2, rfl, _⟩ := hu.form
  have hl0 : (0 : Int) < (l.length : Int) := by omega
  go_enter Try.func17, Try.ntmps17
  go_wp2
  go_loopw [5, 6] (fun x i wr => ∃ (m : Nat) (L : List Pt), m ≤ o.length ∧ i = .int .i64 (m : Int) ∧ Hid (L.Nodup ∧ (∀ q ∈ L, q ∈ l) ∧ L.length ≤ m) ∧ OMem w wr [.row 39 2 x L.length (ptVs L)]) (fun _ i _ => o.length - (intOf i).toNat)
  case atStart => exact ⟨0, [], Nat.zero_le _, rfl, Lib.hid ⟨List.nodup_nil, (fun q hq => by cases hq), Nat.le_refl _⟩, (OMem.start w).rowNil _ _⟩
  case round =>
    obtain ⟨m, L, hm, rfl, HL, M⟩ := hrel
    by_cases hlt : m < o.length
    · obtain ⟨z, hz⟩ : ∃ z, o[m]? = some z := ⟨_, List.getElem?_eq_getElem hlt⟩
      have hzr := HU.out.2 z (List.mem_of_getElem? hz)
      obtain ⟨a3, cap3, h1, hcl⟩ := (HU.out.keep M.below).form
      cases h1
      obtain ⟨b2, off2, rfl, c2⟩ := hcl m z hz
      obtain ⟨t, ht⟩ : ∃ t : Nat, z % (l.length : Int) = (t : Int) := ⟨(z % (l.length : Int)).toNat, by have := Int.emod_nonneg z (show (l.length : Int) ≠ 0 by omega); omega⟩
      have htl : t < l.length := by have := Int.emod_lt_of_pos z hl0; omega
      obtain ⟨q, hq⟩ : ∃ q, l[t]? = some q := ⟨_, List.getElem?_eq_getElem htl⟩
      obtain ⟨c0, c1⟩ := (HV.out.keep M.below).at_ hq
      have hne : (l.length : Int) ≠ 0 := by omega
      have M1 := M.fresh ((Below.refl wr.heap.size wr).alloc (Nat.le_refl _) (.cells #[.int .i64 q.1, .int .i64 q.2] 39))
      have hs0 : (wr.alloc (.cells #[.int .i64 q.1, .int .i64 q.2] 39)).cell? ⟨wr.heap.size, 0, none⟩ = some (.int .i64 q.1) := by rw [Lib.cell_of_heap (MapKept.heap_alloc _ _).1]; rfl
      have hs1 : (wr.alloc (.cells #[.int .i64 q.1, .int .i64 q.2] 39)).cell? ⟨wr.heap.size, 1, none⟩ = some (.int .i64 q.2) := by rw [Lib.cell_of_heap (MapKept.heap_alloc _ _).1]; rfl
      have HQ := Lib.hid hq
      have HM1 := Lib.hid M1
      obtain ⟨xa, xc, rfl⟩ := own_form (M.rowAt (i := 0) rfl)
      clear hz hcl hq M M1
      go_wp2
      clear ht c0 c1 c2
      generalize wr.alloc (.cells #[.int .i64 q.1, .int .i64 q.2] 39) = w1 at *
      generalize wr.heap.size = B at *
      have S0 := Lib.hid hs0
      have S1 := Lib.hid hs1
      clear hs0 hs1
      go_loopw [8, 9] (fun x k wr => ∃ (j : Nat) (b : Bool), j ≤ L.length ∧ k = .int .i64 (j : Int) ∧ x = .bool b ∧ Hid (Known b q (L.take j)) ∧ Below w1.heap.size w1 wr) (fun _ k _ => L.length - (intOf k).toNat)
      case atStart => exact ⟨0, false, Nat.zero_le _, rfl, rfl, Lib.hid (show Known false q (L.take 0) by unfold Known; simp), Below.refl _ _⟩
      case round =>
        obtain ⟨j, ib, hj, rfl, rfl, HIB, hb⟩ := hrel
        have HB := Lib.hid hb
        have hL30 : L.length ≤ 100 := by have := HL.out.2.2; omega
        by_cases hjl : j < L.length
        · obtain ⟨p, hp⟩ : ∃ p, L[j]? = some p := ⟨_, List.getElem?_eq_getElem hjl⟩
          have s0 := below_cell S0.out hb
          have s1 := below_cell S1.out hb
          have hsh : SharesAt wr (.slice xa L.length xc) L := SharesAt.of_own ((HM1.out.fresh hb).rowAt (i := 0) rfl)
          obtain ⟨b3, off3, cap3, h1, _, hcl⟩ := hsh.form (by omega)
          cases h1
          obtain ⟨c0, c1⟩ := hcl j p hp
          have HP := Lib.hid hp
          have HT := Lib.hid (show L.take (j + 1) = L.take j ++ [p] by rw [List.take_add_one, hp]; rfl)
          clear hp hcl hsh hb
          cases ib with
          | true =>
            have HN := Lib.hid (show Known true q (L.take (j + 1)) from ⟨fun _ => by rw [HT.out]; exact List.mem_append_left _ (HIB.out.1 rfl), fun _ => rfl⟩)
            clear HIB
            go_wp2
            go_quiet (fail)
            go_wp2
            go_roundw
            case rel => exact ⟨j + 1, true, by omega, by go_num, rfl, HN, HB.out.trans ((drewN_below _ _).mono HB.out.size)⟩
            case measure => simp [intOf]; omega
          | false =>
            have hnm : ¬ q ∈ L.take j := fun h => by have := HIB.out.2 h; cases this
            by_cases he : p = q
            · have HN := Lib.hid (show Known true q (L.take (j + 1)) from ⟨fun _ => by rw [HT.out, he]; exact List.mem_append_right _ (List.mem_singleton.2 rfl), fun _ => rfl⟩)
              subst he
              clear HIB hnm
              go_wp2
              go_quiet (fail)
              go_wp2
              go_roundw
              case rel => exact ⟨j + 1, true, by omega, by go_num, rfl, HN, HB.out.trans ((drewN_below _ _).mono HB.out.size)⟩
              case measure => simp [intOf]; omega
            · have HN := Lib.hid (show Known false q (L.take (j + 1)) from ⟨fun h => (by cases h), fun h => by
                rw [HT.out] at h
                rcases List.mem_append.1 h with z | z
                · exact (hnm z).elim
                · exact (he (List.mem_singleton.1 z).symm).elim⟩)
              have hne2 := pt_ne he
              clear HIB hnm
              by_cases h1 : p.1 = q.1
              · have h2 := hne2 h1
                rw [h1] at c0
                clear h1 hne2 he
                go_wp2
                go_quiet (fail)
                go_wp2
                go_roundw
                case rel => exact ⟨j + 1, false, by omega, by go_num, rfl, HN, HB.out.trans ((drewN_below _ _).mono HB.out.size)⟩
                case measure => simp [intOf]; omega
              · clear hne2 he
                go_wp2
                go_quiet (fail)
                go_wp2
                go_roundw
                case rel => exact ⟨j + 1, false, by omega, by go_num, rfl, HN, HB.out.trans ((drewN_below _ _).mono HB.out.size)⟩
                case measure => simp [intOf]; omega
        · obtain rfl : j = L.length := by omega
          have hib : ib = true ↔ q ∈ L := by have := HIB.out; rw [List.take_length] at this; exact this
          have M2 := HM1.out.fresh hb
          have hql := List.mem_of_getElem? HQ.out
          cases ib with
          | true =>
            have HN := Lib.hid (show L.Nodup ∧ (∀ q ∈ L, q ∈ l) ∧ L.length ≤ m + 1 from ⟨HL.out.1, HL.out.2.1, by have := HL.out.2.2; omega⟩)
            have HM2 := Lib.hid M2
            clear M2 hib hb
            go_wp2
            go_roundw
            case rel => exact ⟨m + 1, L, by omega, by go_num, HN, HM2.out⟩
            case measure => simp [intOf]; omega
          | false =>
            have hnm : ¬ q ∈ L := fun h => by have := hib.2 h; cases this
            have HN := Lib.hid (show (L ++ [q]).Nodup ∧ (∀ r ∈ L ++ [q], r ∈ l) ∧ (L ++ [q]).length ≤ m + 1 from ⟨by
              rw [List.nodup_append]
              exact ⟨HL.out.1, by simp, fun a ha b hb' e => hnm (by have hbq := List.mem_singleton.1 hb'; rw [← hbq, ← e]; exact ha)⟩, fun r hr => by
              rcases List.mem_append.1 hr with z | z
              · exact HL.out.2.1 r z
              · exact List.mem_singleton.1 z ▸ hql, by have := HL.out.2.2; simp; omega⟩)
            have s0 := below_cell S0.out hb
            have s1 := below_cell S1.out hb
            obtain ⟨ya, yc, w5, r5, m5⟩ := M2.push1 (i := 0) rfl q (by omega)
            have R5 := Lib.hid r5
            have M5 := Lib.hid (show OMem w w5 [.row 39 2 (.slice ya (L.length + 1) yc) (L.length + 1) (ptVs (L ++ [q]))] from m5)
            clear M2 hib hb hnm r5 m5
            go_wp2_with (at_builtin; refine Hid.out ?_)
            refine Lib.hid ?_
            refine Lib.wpList_append_run _ rfl _ _ _ _ rfl _ _ rfl rfl _ _ R5.out ?_
            go_wp2
            go_roundw
            case rel => exact ⟨m + 1, L ++ [q], by omega, by go_num, HN, by rw [List.length_append]; exact M5.out⟩
            case measure => simp [intOf]; omega
    · obtain rfl : m = o.length := by omega
      have HS := Lib.hid (SharesAt.of_own (l := L) (M.rowAt (i := 0) rfl))
      have HB := Lib.hid M.below
      clear M
      go_wp2
      go_ret
      exact ⟨_, L, rfl, HS.out, ⟨HL.out.1, HL.out.2.1, HL.out.2.2⟩, HB.out⟩
end
end Go.Proofs.Ytemokedoeneibaa
