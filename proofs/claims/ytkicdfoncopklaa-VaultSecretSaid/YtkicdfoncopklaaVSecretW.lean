/- The walk of VaultSecret. -/
import Derived.Test.YtkicdfoncopklaaVSmall
import Derived.Test.YtkicdfoncopklaaVPlain
namespace Go.Proofs.Ytkicdfoncopklaa
open Go.RowKit Go.Maps Go.ChangeMaps Go.MapKept
open Vp
attribute [local go_sem ↓] Go.wp_at_zero Go.wp_at_succ

section
variable {w : World} {os : List Ob} {i b : Nat}
theorem raw_cells {w0 : World} {cs : Array Value} {e : TypeId} (h : OMem w0 w os) (hi : os[i]? = some (.raw b (.cells cs e (0, 0)))) {j : Nat} {v : Value} (hj : cs[j]? = some v) : w.cell? ⟨b, j, none⟩ = some v := by
  rw [Lib.cell_of_heap (h.raw_at hi)]; exact hj
theorem raw_fz {w0 : World} {cs : Array Value} {e : TypeId} (h : OMem w0 w os) (hi : os[i]? = some (.raw b (.cells cs e (0, 0)))) (j : Nat) : w.frozen? ⟨b, j, none⟩ = false := Lib.frozen_of_heap (h.raw_at hi) j
end
set_option maxHeartbeats 8000000 in
set_option maxRecDepth 100000 in
theorem secret_walk {w : World} {v u : Value} {l : List VOp} {tx : List ByteArray} (hv : OpsAt w v l) (hu : TextsAt w u tx) (hz : ∀ s ∈ tx, s.size ≤ 281474976710656) : Calls Try.prog 4 #[v, u] w fun e w' => e = .returned (.bool true) ∧ Below w.heap.size w w' := by
  have HL := Lib.hid hv
  have HU := Lib.hid hu
  have HZ := Lib.hid hz
  obtain ⟨a, cap, rfl, -⟩ := hv
  obtain ⟨a', cap', rfl, -⟩ := hu.form
  clear hu hz
  go_enter Try.func4, Try.ntmps4
  go_wp2_with (go_at_call 7; refine (small_any _).mono ?_; rintro e w1 ⟨rfl, hb1⟩; refine Hid.out ?_)
  refine Lib.hid ?_
  have M1 := Lib.hid ((OMem.start w).fresh hb1)
  clear hb1
  have HF1 := few_any _ l 60 (HL.out.keep M1.out.below) (by decide)
  by_cases hf : few l 60 = true
  case neg =>
    have hff : few l 60 = false := by simpa using hf
    rw [hff] at HF1
    have HF1 := Lib.hid HF1
    clear hf hff
    go_wp2_with (go_at_call 8; refine (HF1.out).mono ?_; rintro e w3 ⟨rfl, rfl⟩; refine Hid.out ?_)
    refine Lib.hid ?_
    clear HF1
    go_wp2
    go_ret
    exact ⟨rfl, M1.out.below⟩
  have hfw := of_decide_eq_true hf
  rw [hf] at HF1
  have HF1 := Lib.hid HF1
  have hll : l.length ≤ 60 := hfw.1
  have HT := Lib.hid hfw.2
  clear hf hfw
  by_cases htx : tx.length ≤ 60
  case neg =>
    go_wp2_with (go_at_call 8; refine (HF1.out).mono ?_; rintro e w3 ⟨rfl, rfl⟩; refine Hid.out ?_)
    refine Lib.hid ?_
    clear HF1
    go_wp2
    go_ret
    exact ⟨rfl, M1.out.below⟩
  go_wp2_with (go_at_call 8; refine (HF1.out).mono ?_; rintro e w3 ⟨rfl, rfl⟩; refine Hid.out ?_)
  refine Lib.hid ?_
  clear HF1
  go_wp2_with (go_at_call 9; refine (v_new M1.out).mono ?_; rintro e w2 ⟨ba, rfl, m2⟩; refine Hid.out ?_)
  refine Lib.hid ?_
  have M2 := Lib.hid (show OMem w w2 [.vault ba empty] from m2)
  clear m2 M1
  go_wp2_with (go_at_call 9; refine (v_new M2.out).mono ?_; rintro e w3 ⟨bb, rfl, m3⟩; refine Hid.out ?_)
  refine Lib.hid ?_
  have M3 := Lib.hid (show OMem w w3 [.vault ba empty, .vault bb empty] from m3)
  clear m3 M2
  go_wp2
  go_loopw [8] (fun i wr => ∃ (k : Nat) (X Y : Vt), k ≤ l.length ∧ i = .int .i64 k ∧ Same X Y ∧ Fine X k ∧ Fine Y k ∧ OMem w wr [.vault ba X, .vault bb Y]) (fun i _ => l.length - (intOf i).toNat)
  case atStart => exact ⟨0, empty, empty, Nat.zero_le _, rfl, Same.refl _, fine_empty _, fine_empty _, M3.out⟩
  case round =>
    obtain ⟨k, X, Y, hk, rfl, hs, hx, hy, hm⟩ := hrel
    have M := Lib.hid hm
    clear hm M3
    by_cases hlt : k < l.length
    · have hsz : l[k].text.size ≤ 281474976710656 := by have := HT.out _ (List.getElem_mem hlt); omega
      obtain ⟨_, _, h1, hac⟩ := HL.out.keep M.out.below
      simp only [Value.slice.injEq] at h1
      obtain ⟨h1, -, -⟩ := h1
      subst h1
      obtain ⟨lb, lo, h1, o0, o1, o2, o3⟩ := hac k _ (List.getElem?_eq_getElem hlt)
      subst h1
      have SS := Lib.hid (fun w5 (m5 : Below w.heap.size w w5) => (by
        obtain ⟨_, _, h1, hac⟩ := HL.out.keep m5
        simp only [Value.slice.injEq] at h1
        obtain ⟨h1, -, -⟩ := h1
        subst h1
        obtain ⟨lb', lo', h1, o0, o1, o2, o3⟩ := hac k _ (List.getElem?_eq_getElem hlt)
        cases h1
        exact ⟨o0, o1, o2, o3⟩ : w5.cell? ⟨lb, lo + k * 4, none⟩ = some (.int .i64 l[k].do_) ∧ w5.cell? ⟨lb, lo + k * 4 + 1, none⟩ = some (.int .i64 l[k].key) ∧ w5.cell? ⟨lb, lo + k * 4 + 2, none⟩ = some (.int .i64 l[k].box) ∧ w5.cell? ⟨lb, lo + k * 4 + 3, none⟩ = some (.string l[k].text)))
      generalize l[k] = o at hsz o0 o1 o2 o3 SS
      obtain ⟨od, ok, ob, ot⟩ := o
      simp only at hsz o0 o1 o2 o3 SS
      clear hac
      by_cases hkt : k < tx.length
      · obtain ⟨_, _, h1, htc⟩ := (HU.out.keep M.out.below).form
        simp only [Value.slice.injEq] at h1
        obtain ⟨h1, -, -⟩ := h1
        subst h1
        obtain ⟨tb, to_, h1, t0⟩ := htc k hkt
        subst h1
        have htz := HZ.out _ (List.getElem_mem hkt)
        generalize tx[k] = t at t0 htz
        clear htc
        have t1 := below_cell t0 (show Below wr.heap.size wr (wr.alloc (.cells #[.int .i64 od, .int .i64 ok, .int .i64 ob, .string ot] 34)) from (Below.refl _ _).alloc (Nat.le_refl _) _)
        have hsame := same_act hs od ok ob ot t
        have hfx := fine_act hx (o := ⟨od, ok, ob, ot⟩) hsz
        have hfy := fine_act hy (o := ⟨od, ok, ob, t⟩) htz
        obtain ⟨dx, X2, hdx⟩ : ∃ d V, act X ⟨od, ok, ob, ot⟩ = (d, V) := ⟨_, _, rfl⟩
        obtain ⟨dy, Y2, hdy⟩ : ∃ d V, act Y ⟨od, ok, ob, t⟩ = (d, V) := ⟨_, _, rfl⟩
        rw [hdx] at hfx hsame
        rw [hdy] at hfy hsame
        obtain ⟨en, ee, hs2⟩ := hsame
        simp only at en ee hs2 hfx hfy
        have hly := hs2.len
        have hlg := congrArg List.length hs2.good
        have M9 := Lib.hid (M.out.raw (.cells #[.int .i64 od, .int .i64 ok, .int .i64 ob, .string t] 34))
        obtain ⟨p0, p1, p2, p3⟩ := SS.out _ M9.out.below
        have HO1 := v_do_eq M9.out (i := 0) rfl hdx (hx.mono (by omega)) hsz
        have HDY := Lib.hid (fun (w0 wz : World) (os : List Ob) (m : OMem w0 wz os) (hi : os[1]? = some (.vault bb Y)) => v_do_eq m hi hdy (hy.mono (by omega)) htz)
        have HS2 := Lib.hid hs2
        have HFX := Lib.hid hfx
        have HFY := Lib.hid hfy
        simp only at HO1 HDY
        have HO1 := Lib.hid HO1
        obtain ⟨xn, xt, xe⟩ := dx
        obtain ⟨yn, yt, ye⟩ := dy
        simp only at en ee
        subst en ee
        have HLY := Lib.hid hly
        have HLG := Lib.hid hlg
        clear hdx hdy hfx hfy hs2 hs hx hy hly hlg
        go_wp2_with (go_at_call 11; refine (HO1.out).mono ?_; rintro e w16 ⟨rfl, m16⟩; refine Hid.out ?_)
        refine Lib.hid ?_
        have m16 := (show OMem w w16 [.vault ba X2, .vault bb Y, .raw wr.heap.size (.cells #[.int .i64 od, .int .i64 ok, .int .i64 ob, .string t] 34 (0, 0))] from m16)
        have M17 := Lib.hid (m16.raw (.cells #[.int .i64 yn, .string xt, .int .i64 ye] 31))
        have q0 := raw_cells M17.out (i := 2) rfl (j := 0) rfl
        have q1 := raw_cells M17.out (i := 2) rfl (j := 1) rfl
        have q2 := raw_cells M17.out (i := 2) rfl (j := 2) rfl
        have q3 := raw_cells M17.out (i := 2) rfl (j := 3) rfl
        have HO2 := Lib.hid (HDY.out _ _ _ M17.out rfl)
        clear m16 HO1 M9 p0 p1 p2 p3
        go_wp2_with (go_at_call 11; refine (HO2.out).mono ?_; rintro e w18 ⟨rfl, m18⟩; refine Hid.out ?_)
        refine Lib.hid ?_
        have m18 := (show OMem w w18 [.vault ba X2, .vault bb Y2, .raw wr.heap.size (.cells #[.int .i64 od, .int .i64 ok, .int .i64 ob, .string t] 34 (0, 0)), .raw w16.heap.size (.cells #[.int .i64 yn, .string xt, .int .i64 ye] 31 (0, 0))] from m18)
        have M19 := Lib.hid (m18.raw (.cells #[.int .i64 yn, .string yt, .int .i64 ye] 31))
        have r0 := raw_cells M19.out (i := 3) rfl (j := 0) rfl
        have r2 := raw_cells M19.out (i := 3) rfl (j := 2) rfl
        have HK2 := v_keys M19.out (i := 1) rfl
        rw [HLG.out] at HK2
        have HK2 := Lib.hid HK2
        have HB2 := v_boxes M19.out (i := 1) rfl
        rw [HLY.out] at HB2
        have HB2 := Lib.hid HB2
        clear m18 HO2 M17 q0 q1 q2 q3
        go_wp2_with (go_at_call 13; refine (v_keys M19.out (i := 0) rfl).mono ?_; rintro e w20 ⟨rfl, rfl⟩; refine Hid.out ?_)
        refine Lib.hid ?_
        go_wp2_with (go_at_call 13; refine (HK2.out).mono ?_; rintro e w20 ⟨rfl, rfl⟩; refine Hid.out ?_)
        refine Lib.hid ?_
        go_wp2_with (go_at_call 14; refine (v_boxes M19.out (i := 0) rfl).mono ?_; rintro e w20 ⟨rfl, rfl⟩; refine Hid.out ?_)
        refine Lib.hid ?_
        go_wp2_with (go_at_call 14; refine (HB2.out).mono ?_; rintro e w20 ⟨rfl, rfl⟩; refine Hid.out ?_)
        refine Lib.hid ?_
        go_wp2
        go_roundw
        case rel => exact ⟨k + 1, X2, Y2, by omega, by go_num, HS2.out, HFX.out, HFY.out, M19.out.take 2⟩
        case measure => simp [intOf]; omega
      · have hsame := same_act hs od ok ob ot ot
        have hfx := fine_act hx (o := ⟨od, ok, ob, ot⟩) hsz
        have hfy := fine_act hy (o := ⟨od, ok, ob, ot⟩) hsz
        obtain ⟨dx, X2, hdx⟩ : ∃ d V, act X ⟨od, ok, ob, ot⟩ = (d, V) := ⟨_, _, rfl⟩
        obtain ⟨dy, Y2, hdy⟩ : ∃ d V, act Y ⟨od, ok, ob, ot⟩ = (d, V) := ⟨_, _, rfl⟩
        rw [hdx] at hfx hsame
        rw [hdy] at hfy hsame
        obtain ⟨en, ee, hs2⟩ := hsame
        simp only at en ee hs2 hfx hfy
        have hly := hs2.len
        have hlg := congrArg List.length hs2.good
        have M9 := Lib.hid (M.out.raw (.cells #[.int .i64 od, .int .i64 ok, .int .i64 ob, .string ot] 34))
        obtain ⟨p0, p1, p2, p3⟩ := SS.out _ M9.out.below
        have HO1 := v_do_eq M9.out (i := 0) rfl hdx (hx.mono (by omega)) hsz
        have HDY := Lib.hid (fun (w0 wz : World) (os : List Ob) (m : OMem w0 wz os) (hi : os[1]? = some (.vault bb Y)) => v_do_eq m hi hdy (hy.mono (by omega)) hsz)
        have HS2 := Lib.hid hs2
        have HFX := Lib.hid hfx
        have HFY := Lib.hid hfy
        simp only at HO1 HDY
        have HO1 := Lib.hid HO1
        obtain ⟨xn, xt, xe⟩ := dx
        obtain ⟨yn, yt, ye⟩ := dy
        simp only at en ee
        subst en ee
        have HLY := Lib.hid hly
        have HLG := Lib.hid hlg
        clear hdx hdy hfx hfy hs2 hs hx hy hly hlg
        go_wp2_with (go_at_call 11; refine (HO1.out).mono ?_; rintro e w16 ⟨rfl, m16⟩; refine Hid.out ?_)
        refine Lib.hid ?_
        have m16 := (show OMem w w16 [.vault ba X2, .vault bb Y, .raw wr.heap.size (.cells #[.int .i64 od, .int .i64 ok, .int .i64 ob, .string ot] 34 (0, 0))] from m16)
        have M17 := Lib.hid (m16.raw (.cells #[.int .i64 yn, .string xt, .int .i64 ye] 31))
        have q0 := raw_cells M17.out (i := 2) rfl (j := 0) rfl
        have q1 := raw_cells M17.out (i := 2) rfl (j := 1) rfl
        have q2 := raw_cells M17.out (i := 2) rfl (j := 2) rfl
        have q3 := raw_cells M17.out (i := 2) rfl (j := 3) rfl
        have HO2 := Lib.hid (HDY.out _ _ _ M17.out rfl)
        clear m16 HO1 M9 p0 p1 p2 p3
        go_wp2_with (go_at_call 11; refine (HO2.out).mono ?_; rintro e w18 ⟨rfl, m18⟩; refine Hid.out ?_)
        refine Lib.hid ?_
        have m18 := (show OMem w w18 [.vault ba X2, .vault bb Y2, .raw wr.heap.size (.cells #[.int .i64 od, .int .i64 ok, .int .i64 ob, .string ot] 34 (0, 0)), .raw w16.heap.size (.cells #[.int .i64 yn, .string xt, .int .i64 ye] 31 (0, 0))] from m18)
        have M19 := Lib.hid (m18.raw (.cells #[.int .i64 yn, .string yt, .int .i64 ye] 31))
        have r0 := raw_cells M19.out (i := 3) rfl (j := 0) rfl
        have r2 := raw_cells M19.out (i := 3) rfl (j := 2) rfl
        have HK2 := v_keys M19.out (i := 1) rfl
        rw [HLG.out] at HK2
        have HK2 := Lib.hid HK2
        have HB2 := v_boxes M19.out (i := 1) rfl
        rw [HLY.out] at HB2
        have HB2 := Lib.hid HB2
        clear m18 HO2 M17 q0 q1 q2 q3
        go_wp2_with (go_at_call 13; refine (v_keys M19.out (i := 0) rfl).mono ?_; rintro e w20 ⟨rfl, rfl⟩; refine Hid.out ?_)
        refine Lib.hid ?_
        go_wp2_with (go_at_call 13; refine (HK2.out).mono ?_; rintro e w20 ⟨rfl, rfl⟩; refine Hid.out ?_)
        refine Lib.hid ?_
        go_wp2_with (go_at_call 14; refine (v_boxes M19.out (i := 0) rfl).mono ?_; rintro e w20 ⟨rfl, rfl⟩; refine Hid.out ?_)
        refine Lib.hid ?_
        go_wp2_with (go_at_call 14; refine (HB2.out).mono ?_; rintro e w20 ⟨rfl, rfl⟩; refine Hid.out ?_)
        refine Lib.hid ?_
        go_wp2
        go_roundw
        case rel => exact ⟨k + 1, X2, Y2, by omega, by go_num, HS2.out, HFX.out, HFY.out, M19.out.take 2⟩
        case measure => simp [intOf]; omega
    · obtain rfl : k = l.length := by omega
      go_wp2
      go_ret
      exact ⟨rfl, M.out.below⟩
end Go.Proofs.Ytkicdfoncopklaa
