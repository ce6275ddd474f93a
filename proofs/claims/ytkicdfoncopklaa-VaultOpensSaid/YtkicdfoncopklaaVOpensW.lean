/- The walk of VaultOpens. -/
import Derived.Test.YtkicdfoncopklaaRHeap5
import Derived.Test.YtkicdfoncopklaaVPlain
import Derived.Test.YtkicdfoncopklaaOrd4
namespace Go.Proofs.Ytkicdfoncopklaa
open Go.RowKit Go.Maps Go.ChangeMaps Go.MapKept
open Vp
attribute [local go_sem ↓] Go.wp_at_zero Go.wp_at_succ

/-- The list of what is gone. -/
def Book (X : Vt) (gs : List Int) : Prop := ∀ n : Nat, X.good[n]? = some false ↔ (n : Int) ∈ gs
theorem book_empty : Book empty [] := fun n => by simp [empty]
theorem book_key {X : Vt} {gs : List Int} (h : Book X gs) : Book (key X) gs := fun n => by
  rw [← h n]
  show (X.good ++ [true])[n]? = _ ↔ _
  rcases Nat.lt_or_ge n X.good.length with hl | hl
  · rw [List.getElem?_append_left hl]
  · rw [List.getElem?_append_right hl, List.getElem?_eq_none hl]
    constructor
    · intro e
      have := List.mem_of_getElem? e
      simp at this
    · intro e; cases e
theorem book_wipe {X : Vt} {gs : List Int} (h : Book X gs) {k : Nat} (hk : k < X.good.length) : Book { X with good := X.good.set k false } (gs ++ [(k : Int)]) := fun n => by
  show (X.good.set k false)[n]? = _ ↔ _
  rw [List.getElem?_set, List.mem_append, ← h n, List.mem_singleton]
  by_cases e : k = n
  · subst e; simp [hk]
  · rw [if_neg e]
    constructor
    · exact .inl
    · rintro (q | q)
      · exact q
      · omega
theorem book_st {X : Vt} {gs : List Int} (h : Book X gs) {n : Nat} (hn : n < X.good.length) : st X n = if (n : Int) ∈ gs then 2 else 1 := by
  rw [st_some hn]
  have hb := h n
  rw [List.getElem?_eq_getElem hn] at hb
  cases hg : X.good[n] with
  | true => rw [hg] at hb; rw [if_pos rfl, if_neg (fun q => by have := hb.2 q; cases this)]
  | false => rw [hg] at hb; rw [if_neg (by decide), if_pos (hb.1 rfl)]
section
variable {w0 w w' : World} {os : List Ob} {i b : Nat}
theorem OMem.pushInt (h : OMem w0 w os) {v : Value} {xs : List Int} (hi : os[i]? = some (.own 3 v (intVs xs))) (z : Int) (hn : xs.length ≤ 100000) :
    ∃ a c w', (Builtin.append_ #[38, 38] 38 #[v, .slice (some ⟨w.heap.size, 0, none⟩) 1 1]).run Try.prog (w.alloc (.cells #[.int .i64 z] 3)) = .ok (.slice a (xs.length + 1) c) w' ∧ OMem w0 w' (os.set i (.own 3 (.slice a (xs.length + 1) c) (intVs (xs ++ [z])))) := by
  have h1 := h.fresh (show Below w.heap.size w (w.alloc (.cells #[.int .i64 z] 3)) from (Below.refl _ _).alloc (Nat.le_refl _) _)
  obtain ⟨v', w', r1, r2, r3, r4, a, c, r5⟩ := run_push_int v xs z _ w.heap.size (by have := h1.at_row hi; rw [intVs_length] at this; exact this) (by rw [Lib.cell_of_heap (MapKept.heap_alloc w _).1]; rfl) hn
  subst r5
  exact ⟨a, c, w', r1, h1.grow hi r3 (by rw [intVs_length]; exact r2) r4⟩
theorem OMem.pushStr (h : OMem w0 w os) {v : Value} {xs : List ByteArray} (hi : os[i]? = some (.own 9 v (strVs xs))) (z : ByteArray) (hn : xs.length ≤ 100000) :
    ∃ a c w', (Builtin.append_ #[39, 39] 39 #[v, .slice (some ⟨w.heap.size, 0, none⟩) 1 1]).run Try.prog (w.alloc (.cells #[.string z] 9)) = .ok (.slice a (xs.length + 1) c) w' ∧ OMem w0 w' (os.set i (.own 9 (.slice a (xs.length + 1) c) (strVs (xs ++ [z])))) := by
  have h1 := h.fresh (show Below w.heap.size w (w.alloc (.cells #[.string z] 9)) from (Below.refl _ _).alloc (Nat.le_refl _) _)
  obtain ⟨v', w', r1, r2, r3, r4, a, c, r5⟩ := run_push_str v xs z _ w.heap.size (by have := h1.at_row hi; rw [strVs_length] at this; exact this) (by rw [Lib.cell_of_heap (MapKept.heap_alloc w _).1]; rfl) hn
  subst r5
  exact ⟨a, c, w', r1, h1.grow hi r3 (by rw [strVs_length]; exact r2) r4⟩
end
theorem below_drewN (w : World) (n : Nat) : Below w.heap.size w (w.drewN n) := ⟨rfl, rfl, rfl, Nat.le_refl _, fun _ _ => rfl⟩
theorem fine_le {X Y : Vt} {n : Nat} {d : VDone} {o : VOp} (h : Fine X n) (hd : act X o = (d, Y)) (hs : o.text.size ≤ 281474976710656) : Fine Y (n + 1) := by
  have := fine_act h hs (o := o)
  rw [hd] at this
  exact this
set_option maxHeartbeats 16000000 in
set_option maxRecDepth 100000 in
theorem opens_walk {w : World} {v : Value} {l : List VOp} (hv : OpsAt w v l) : Calls Try.prog 5 #[v] w fun e w' => e = .returned (.bool true) ∧ Below w.heap.size w w' := by
  have HL := Lib.hid hv
  obtain ⟨a, cap, rfl, -⟩ := hv
  go_enter Try.func5, Try.ntmps5
  go_wp2_with (go_at_call 7; refine (small_any _).mono ?_; rintro e w1 ⟨rfl, hb1⟩; refine Hid.out ?_)
  refine Lib.hid ?_
  have M1 := Lib.hid ((OMem.start w).fresh hb1)
  clear hb1
  have HF1 := few_any _ l 60 (HL.out.keep M1.out.below) (by decide)
  by_cases hf : few l 60 = true
  case neg =>
    have hff : few l 60 = false := by simpa using hf
    rw [hff] at HF1
    have HF1 := Lib.hid HF1
    clear hf hff
    go_wp2_with (go_at_call 8; refine (HF1.out).mono ?_; rintro e w3 ⟨rfl, rfl⟩; refine Hid.out ?_)
    refine Lib.hid ?_
    clear HF1
    go_wp2
    go_ret
    exact ⟨rfl, M1.out.below⟩
  have hfw := of_decide_eq_true hf
  rw [hf] at HF1
  have HF1 := Lib.hid HF1
  have hll : l.length ≤ 60 := hfw.1
  have HT := Lib.hid hfw.2
  clear hf hfw
  go_wp2_with (go_at_call 8; refine (HF1.out).mono ?_; rintro e w3 ⟨rfl, rfl⟩; refine Hid.out ?_)
  refine Lib.hid ?_
  clear HF1
  go_wp2_with (go_at_call 9; refine (v_new M1.out).mono ?_; rintro e w2 ⟨ba, rfl, m2⟩; refine Hid.out ?_)
  refine Lib.hid ?_
  have M2 := Lib.hid (show OMem w w2 [.vault ba empty, .own 3 (.slice none 0 0) (intVs []), .own 9 (.slice none 0 0) (strVs []), .own 3 (.slice none 0 0) (intVs [])] from ((m2.nil 3).nil 9).nil 3)
  clear m2 M1
  go_wp2
  go_loopw [5, 6, 7, 8] (fun s5 s6 s7 i wr => ∃ (k : Nat) (X : Vt) (gs : List Int) (ka : Option Addr) (kc : Nat) (ta : Option Addr) (tc : Nat) (ga : Option Addr) (gc : Nat), k ≤ l.length ∧ i = .int .i64 k ∧ s5 = .slice ka X.boxes.length kc ∧ s6 = .slice ta X.boxes.length tc ∧ s7 = .slice ga gs.length gc ∧ Book X gs ∧ gs.length ≤ k ∧ Fine X k ∧
      OMem w wr [.vault ba X, .own 3 (.slice ka X.boxes.length kc) (intVs (keysOf X)), .own 9 (.slice ta X.boxes.length tc) (strVs (textsOf X)), .own 3 (.slice ga gs.length gc) (intVs gs)]) (fun _ _ _ i _ => l.length - (intOf i).toNat)
  case atStart => exact ⟨0, empty, [], none, 0, none, 0, none, 0, Nat.zero_le _, rfl, rfl, rfl, rfl, book_empty, Nat.le_refl _, fine_empty _, M2.out⟩
  case round =>
    obtain ⟨k, X, gs, ka, kc, ta, tc, ga, gc, hk, rfl, rfl, rfl, rfl, hbk, hgk, hfx, hm⟩ := hrel
    have M := Lib.hid hm
    have HBK := Lib.hid hbk
    clear hm M2 hbk
    by_cases hlt : k < l.length
    · have hsz : l[k].text.size ≤ 281474976710656 := by have := HT.out _ (List.getElem_mem hlt); omega
      have hbx := hfx.boxes
      obtain ⟨_, _, h1, hac⟩ := HL.out.keep M.out.below
      simp only [Value.slice.injEq] at h1
      obtain ⟨h1, -, -⟩ := h1
      subst h1
      obtain ⟨lb, lo, h1, o0, o1, o2, o3⟩ := hac k _ (List.getElem?_eq_getElem hlt)
      subst h1
      have SS := (fun w5 (m5 : Below w.heap.size w w5) => (by
        obtain ⟨_, _, h1, hac⟩ := HL.out.keep m5
        simp only [Value.slice.injEq] at h1
        obtain ⟨h1, -, -⟩ := h1
        subst h1
        obtain ⟨lb', lo', h1, o0, o1, o2, o3⟩ := hac k _ (List.getElem?_eq_getElem hlt)
        cases h1
        exact ⟨o0, o1, o2, o3⟩ : w5.cell? ⟨lb, lo + k * 4, none⟩ = some (.int .i64 l[k].do_) ∧ w5.cell? ⟨lb, lo + k * 4 + 1, none⟩ = some (.int .i64 l[k].key) ∧ w5.cell? ⟨lb, lo + k * 4 + 2, none⟩ = some (.int .i64 l[k].box) ∧ w5.cell? ⟨lb, lo + k * 4 + 3, none⟩ = some (.string l[k].text)))
      clear hac
      generalize l[k] = o at hsz o0 o1 o2 o3 SS
      obtain ⟨od, ok, ob, ot⟩ := o
      simp only at hsz o0 o1 o2 o3 SS
      have SS := Lib.hid SS
      by_cases h1 : od = 1
      · subst h1
        rcases st_cases X ok with h0 | h0 | h0
        · have hd : act X ⟨1, ok, ob, ot⟩ = (⟨0, xE, 4⟩, X) := by show ((⟨(lock X ok ot).1.1, xE, (lock X ok ot).1.2⟩ : VDone), (lock X ok ot).2) = _; unfold lock; rw [h0]; rfl
          clear h0
          have HO := Lib.hid (v_do_eq M.out (i := 0) rfl hd (hfx.mono (by omega)) hsz)
          have HF2 := Lib.hid (fine_le hfx hd hsz)
          clear hd hfx hsz
          go_wp2_with (go_at_call 11; refine (HO.out).mono ?_; rintro e w4 ⟨rfl, m4⟩; refine Hid.out ?_)
          refine Lib.hid ?_
          have m4 := (show OMem w w4 [.vault ba X, .own 3 (.slice ka X.boxes.length kc) (intVs (keysOf X)), .own 9 (.slice ta X.boxes.length tc) (strVs (textsOf X)), .own 3 (.slice ga gs.length gc) (intVs gs)] from m4)
          have M5 := Lib.hid (m4.raw (.cells #[.int .i64 (0), .string xE, .int .i64 (4)] 31))
          obtain ⟨p0, p1, p2, p3⟩ := SS.out _ M5.out.below
          have HS4 := Lib.hid (show (w4.alloc (.cells #[.int .i64 (0), .string xE, .int .i64 (4)] 31)).heap.size = w4.heap.size + 1 by simp)
          clear m4 HO M o0 o1 o2 o3
          go_wp2
          go_roundw
          case rel => exact ⟨k + 1, X, gs, ka, kc, ta, tc, ga, gc, by omega, by go_num, rfl, rfl, rfl, HBK.out, by omega, HF2.out, M5.out.take 4⟩
          case measure => simp [intOf]; omega
        · have hlt2 := st_lt (V := X) (k := ok) (by rw [h0]; decide)
          have hd : act X ⟨1, ok, ob, ot⟩ = (⟨(X.boxes.length : Int), xE, 0⟩, { X with boxes := X.boxes ++ [(ok.toNat, ot)] }) := by show ((⟨(lock X ok ot).1.1, xE, (lock X ok ot).1.2⟩ : VDone), (lock X ok ot).2) = _; unfold lock; rw [h0]; rfl
          have HKK := Lib.hid (show ((ok.toNat : Nat) : Int) = ok by omega)
          clear h0 hlt2
          have HO := Lib.hid (v_do_eq M.out (i := 0) rfl hd (hfx.mono (by omega)) hsz)
          have HF2 := Lib.hid (fine_le hfx hd hsz)
          clear hd hfx hsz
          go_wp2_with (go_at_call 11; refine (HO.out).mono ?_; rintro e w4 ⟨rfl, m4⟩; refine Hid.out ?_)
          refine Lib.hid ?_
          have m4 := (show OMem w w4 [.vault ba { X with boxes := X.boxes ++ [(ok.toNat, ot)] }, .own 3 (.slice ka X.boxes.length kc) (intVs (keysOf X)), .own 9 (.slice ta X.boxes.length tc) (strVs (textsOf X)), .own 3 (.slice ga gs.length gc) (intVs gs)] from m4)
          have M5 := Lib.hid (m4.raw (.cells #[.int .i64 (X.boxes.length), .string xE, .int .i64 (0)] 31))
          obtain ⟨p0, p1, p2, p3⟩ := SS.out _ M5.out.below
          have HS4 := Lib.hid (show (w4.alloc (.cells #[.int .i64 (X.boxes.length), .string xE, .int .i64 (0)] 31)).heap.size = w4.heap.size + 1 by simp)
          clear m4 HO M o0 o1 o2 o3
          obtain ⟨ka', kc', w7, r7, m7⟩ := M5.out.pushInt (i := 1) (xs := keysOf X) rfl ok (by rw [keysOf_length]; omega)
          rw [keysOf_length, HS4.out] at r7
          rw [keysOf_length] at m7
          have m7 := (show OMem w w7 [.vault ba { X with boxes := X.boxes ++ [(ok.toNat, ot)] }, .own 3 (.slice ka' (X.boxes.length + 1) kc') (intVs (keysOf X ++ [ok])), .own 9 (.slice ta X.boxes.length tc) (strVs (textsOf X)), .own 3 (.slice ga gs.length gc) (intVs gs), .raw w4.heap.size (.cells #[.int .i64 X.boxes.length, .string xE, .int .i64 0] 31 (0, 0))] from m7)
          obtain ⟨q0, q1, q2, q3⟩ := SS.out _ m7.below
          obtain ⟨ta', tc', w9, r9, m9⟩ := m7.pushStr (i := 2) (xs := textsOf X) rfl ot (by rw [textsOf_length]; omega)
          rw [textsOf_length] at r9 m9
          have m9 := (show OMem w w9 [.vault ba { X with boxes := X.boxes ++ [(ok.toNat, ot)] }, .own 3 (.slice ka' (X.boxes.length + 1) kc') (intVs (keysOf X ++ [ok])), .own 9 (.slice ta' (X.boxes.length + 1) tc') (strVs (textsOf X ++ [ot])), .own 3 (.slice ga gs.length gc) (intVs gs), .raw w4.heap.size (.cells #[.int .i64 X.boxes.length, .string xE, .int .i64 0] 31 (0, 0))] from m9)
          obtain ⟨s0, s1, s2, s3⟩ := SS.out _ m9.below
          have m10 : OMem w w9 [.vault ba { X with boxes := X.boxes ++ [(ok.toNat, ot)] }, .own 3 (.slice ka' (X.boxes.length + 1) kc') (intVs (keysOf { X with boxes := X.boxes ++ [(ok.toNat, ot)] })), .own 9 (.slice ta' (X.boxes.length + 1) tc') (strVs (textsOf { X with boxes := X.boxes ++ [(ok.toNat, ot)] })), .own 3 (.slice ga gs.length gc) (intVs gs)] := by
            have h1 : keysOf { X with boxes := X.boxes ++ [(ok.toNat, ot)] } = keysOf X ++ [ok] := by simp [keysOf, HKK.out]
            have h2 : textsOf { X with boxes := X.boxes ++ [(ok.toNat, ot)] } = textsOf X ++ [ot] := by simp [textsOf]
            rw [h1, h2]
            exact m9.take 4
          have HP := Lib.hid r7
          have HP2 := Lib.hid r9
          have M10 := Lib.hid m10
          clear r7 m7 r9 m9 m10 M5 HKK
          go_wp2_with (at_builtin; refine Hid.out ?_)
          refine Lib.hid ?_
          refine Lib.wpList_append_run _ rfl _ _ _ _ rfl _ _ rfl rfl _ _ HP.out ?_
          go_wp2_with (at_builtin; refine Hid.out ?_)
          refine Lib.hid ?_
          refine Lib.wpList_append_run _ rfl _ _ _ _ rfl _ _ rfl rfl _ _ HP2.out ?_
          go_wp2
          go_roundw
          case rel => exact ⟨k + 1, { X with boxes := X.boxes ++ [(ok.toNat, ot)] }, gs, ka', kc', ta', tc', ga, gc, by omega, by go_num, by simp, by simp, rfl, HBK.out, by omega, HF2.out, by simpa using M10.out⟩
          case measure => simp [intOf]; omega
        · have hd : act X ⟨1, ok, ob, ot⟩ = (⟨0, xE, 13⟩, X) := by show ((⟨(lock X ok ot).1.1, xE, (lock X ok ot).1.2⟩ : VDone), (lock X ok ot).2) = _; unfold lock; rw [h0]; rfl
          clear h0
          have HO := Lib.hid (v_do_eq M.out (i := 0) rfl hd (hfx.mono (by omega)) hsz)
          have HF2 := Lib.hid (fine_le hfx hd hsz)
          clear hd hfx hsz
          go_wp2_with (go_at_call 11; refine (HO.out).mono ?_; rintro e w4 ⟨rfl, m4⟩; refine Hid.out ?_)
          refine Lib.hid ?_
          have m4 := (show OMem w w4 [.vault ba X, .own 3 (.slice ka X.boxes.length kc) (intVs (keysOf X)), .own 9 (.slice ta X.boxes.length tc) (strVs (textsOf X)), .own 3 (.slice ga gs.length gc) (intVs gs)] from m4)
          have M5 := Lib.hid (m4.raw (.cells #[.int .i64 (0), .string xE, .int .i64 (13)] 31))
          obtain ⟨p0, p1, p2, p3⟩ := SS.out _ M5.out.below
          have HS4 := Lib.hid (show (w4.alloc (.cells #[.int .i64 (0), .string xE, .int .i64 (13)] 31)).heap.size = w4.heap.size + 1 by simp)
          clear m4 HO M o0 o1 o2 o3
          go_wp2
          go_roundw
          case rel => exact ⟨k + 1, X, gs, ka, kc, ta, tc, ga, gc, by omega, by go_num, rfl, rfl, rfl, HBK.out, by omega, HF2.out, M5.out.take 4⟩
          case measure => simp [intOf]; omega
      by_cases h3 : od = 3
      · subst h3
        rcases st_cases X ok with h0 | h0 | h0
        · have hd : act X ⟨3, ok, ob, ot⟩ = (⟨0, xE, 4⟩, X) := by show ((⟨0, xE, (destroy X ok).1⟩ : VDone), (destroy X ok).2) = _; unfold destroy; rw [h0]; rfl
          clear h0
          have HO := Lib.hid (v_do_eq M.out (i := 0) rfl hd (hfx.mono (by omega)) hsz)
          have HF2 := Lib.hid (fine_le hfx hd hsz)
          clear hd hfx hsz
          go_wp2_with (go_at_call 11; refine (HO.out).mono ?_; rintro e w4 ⟨rfl, m4⟩; refine Hid.out ?_)
          refine Lib.hid ?_
          have m4 := (show OMem w w4 [.vault ba X, .own 3 (.slice ka X.boxes.length kc) (intVs (keysOf X)), .own 9 (.slice ta X.boxes.length tc) (strVs (textsOf X)), .own 3 (.slice ga gs.length gc) (intVs gs)] from m4)
          have M5 := Lib.hid (m4.raw (.cells #[.int .i64 (0), .string xE, .int .i64 (4)] 31))
          obtain ⟨p0, p1, p2, p3⟩ := SS.out _ M5.out.below
          have HS4 := Lib.hid (show (w4.alloc (.cells #[.int .i64 (0), .string xE, .int .i64 (4)] 31)).heap.size = w4.heap.size + 1 by simp)
          clear m4 HO M o0 o1 o2 o3
          go_wp2
          go_roundw
          case rel => exact ⟨k + 1, X, gs, ka, kc, ta, tc, ga, gc, by omega, by go_num, rfl, rfl, rfl, HBK.out, by omega, HF2.out, M5.out.take 4⟩
          case measure => simp [intOf]; omega
        · have hlt2 := st_lt (V := X) (k := ok) (by rw [h0]; decide)
          obtain ⟨ok, rfl⟩ : ∃ m : Nat, ok = (m : Int) := ⟨ok.toNat, by omega⟩
          have hd : act X ⟨3, ok, ob, ot⟩ = (⟨0, xE, 0⟩, { X with good := X.good.set ok false }) := by show ((⟨0, xE, (destroy X ok).1⟩ : VDone), (destroy X ok).2) = _; unfold destroy; rw [h0]; rfl
          have HB2 := Lib.hid (book_wipe HBK.out (k := ok) (by omega))
          clear h0 hlt2
          have HO := Lib.hid (v_do_eq M.out (i := 0) rfl hd (hfx.mono (by omega)) hsz)
          have HF2 := Lib.hid (fine_le hfx hd hsz)
          clear hd hfx hsz
          go_wp2_with (go_at_call 11; refine (HO.out).mono ?_; rintro e w4 ⟨rfl, m4⟩; refine Hid.out ?_)
          refine Lib.hid ?_
          have m4 := (show OMem w w4 [.vault ba { X with good := X.good.set ok false }, .own 3 (.slice ka X.boxes.length kc) (intVs (keysOf X)), .own 9 (.slice ta X.boxes.length tc) (strVs (textsOf X)), .own 3 (.slice ga gs.length gc) (intVs gs)] from m4)
          have M5 := Lib.hid (m4.raw (.cells #[.int .i64 (0), .string xE, .int .i64 (0)] 31))
          obtain ⟨p0, p1, p2, p3⟩ := SS.out _ M5.out.below
          have HS4 := Lib.hid (show (w4.alloc (.cells #[.int .i64 (0), .string xE, .int .i64 (0)] 31)).heap.size = w4.heap.size + 1 by simp)
          clear m4 HO M o0 o1 o2 o3
          obtain ⟨ga', gc', w7, r7, m7⟩ := M5.out.pushInt (i := 3) (xs := gs) rfl (ok : Int) (by omega)
          rw [HS4.out] at r7
          have HP := Lib.hid r7
          have M7 := Lib.hid (show OMem w w7 [.vault ba { X with good := X.good.set ok false }, .own 3 (.slice ka X.boxes.length kc) (intVs (keysOf X)), .own 9 (.slice ta X.boxes.length tc) (strVs (textsOf X)), .own 3 (.slice ga' (gs.length + 1) gc') (intVs (gs ++ [(ok : Int)]))] from m7.take 4)
          clear r7 m7
          go_wp2_with (at_builtin; refine Hid.out ?_)
          refine Lib.hid ?_
          refine Lib.wpList_append_run _ rfl _ _ _ _ rfl _ _ rfl rfl _ _ HP.out ?_
          go_wp2
          go_roundw
          case rel => exact ⟨k + 1, { X with good := X.good.set ok false }, gs ++ [(ok : Int)], ka, kc, ta, tc, ga', gc', by omega, by go_num, rfl, rfl, by simp, HB2.out, by simp; omega, HF2.out, by rw [show (gs ++ [(ok : Int)]).length = gs.length + 1 from by simp]; exact M7.out⟩
          case measure => simp [intOf]; omega
        · have hd : act X ⟨3, ok, ob, ot⟩ = (⟨0, xE, 5⟩, X) := by show ((⟨0, xE, (destroy X ok).1⟩ : VDone), (destroy X ok).2) = _; unfold destroy; rw [h0]; rfl
          clear h0
          have HO := Lib.hid (v_do_eq M.out (i := 0) rfl hd (hfx.mono (by omega)) hsz)
          have HF2 := Lib.hid (fine_le hfx hd hsz)
          clear hd hfx hsz
          go_wp2_with (go_at_call 11; refine (HO.out).mono ?_; rintro e w4 ⟨rfl, m4⟩; refine Hid.out ?_)
          refine Lib.hid ?_
          have m4 := (show OMem w w4 [.vault ba X, .own 3 (.slice ka X.boxes.length kc) (intVs (keysOf X)), .own 9 (.slice ta X.boxes.length tc) (strVs (textsOf X)), .own 3 (.slice ga gs.length gc) (intVs gs)] from m4)
          have M5 := Lib.hid (m4.raw (.cells #[.int .i64 (0), .string xE, .int .i64 (5)] 31))
          obtain ⟨p0, p1, p2, p3⟩ := SS.out _ M5.out.below
          have HS4 := Lib.hid (show (w4.alloc (.cells #[.int .i64 (0), .string xE, .int .i64 (5)] 31)).heap.size = w4.heap.size + 1 by simp)
          clear m4 HO M o0 o1 o2 o3
          go_wp2
          go_roundw
          case rel => exact ⟨k + 1, X, gs, ka, kc, ta, tc, ga, gc, by omega, by go_num, rfl, rfl, rfl, HBK.out, by omega, HF2.out, M5.out.take 4⟩
          case measure => simp [intOf]; omega
      have e1 : (od == 1) = false := by simpa using h1
      have e3 : (od == 3) = false := by simpa using h3
      by_cases h0 : od = 0
      · subst h0
        have hd : act X ⟨0, ok, ob, ot⟩ = (⟨(X.good.length : Int), xE, 0⟩, key X) := rfl
        clear h1 h3
        have HO := Lib.hid (v_do_eq M.out (i := 0) rfl hd (hfx.mono (by omega)) hsz)
        have HF2 := Lib.hid (fine_le hfx hd hsz)
        clear hd hfx hsz
        go_wp2_with (go_at_call 11; refine (HO.out).mono ?_; rintro e w4 ⟨rfl, m4⟩; refine Hid.out ?_)
        refine Lib.hid ?_
        have m4 := (show OMem w w4 [.vault ba (key X), .own 3 (.slice ka X.boxes.length kc) (intVs (keysOf X)), .own 9 (.slice ta X.boxes.length tc) (strVs (textsOf X)), .own 3 (.slice ga gs.length gc) (intVs gs)] from m4)
        have M5 := Lib.hid (m4.raw (.cells #[.int .i64 (X.good.length), .string xE, .int .i64 (0)] 31))
        obtain ⟨p0, p1, p2, p3⟩ := SS.out _ M5.out.below
        have HS4 := Lib.hid (show (w4.alloc (.cells #[.int .i64 (X.good.length), .string xE, .int .i64 (0)] 31)).heap.size = w4.heap.size + 1 by simp)
        clear m4 HO M o0 o1 o2 o3
        go_wp2
        go_roundw
        case rel => exact ⟨k + 1, (key X), gs, ka, kc, ta, tc, ga, gc, by omega, by go_num, rfl, rfl, rfl, book_key HBK.out, by omega, HF2.out, M5.out.take 4⟩
        case measure => simp [intOf]; omega
      by_cases h2 : od = 2
      · subst h2
        obtain ⟨s, er, hop⟩ : ∃ s er, opens X ok ob = (s, er) := ⟨_, _, rfl⟩
        have hd : act X ⟨2, ok, ob, ot⟩ = (⟨0, s, er⟩, X) := by show ((⟨0, (opens X ok ob).1, (opens X ok ob).2⟩ : VDone), X) = _; rw [hop]
        clear h1 h3 h0 hop
        have HO := Lib.hid (v_do_eq M.out (i := 0) rfl hd (hfx.mono (by omega)) hsz)
        have HF2 := Lib.hid (fine_le hfx hd hsz)
        clear hd hfx hsz
        go_wp2_with (go_at_call 11; refine (HO.out).mono ?_; rintro e w4 ⟨rfl, m4⟩; refine Hid.out ?_)
        refine Lib.hid ?_
        have m4 := (show OMem w w4 [.vault ba X, .own 3 (.slice ka X.boxes.length kc) (intVs (keysOf X)), .own 9 (.slice ta X.boxes.length tc) (strVs (textsOf X)), .own 3 (.slice ga gs.length gc) (intVs gs)] from m4)
        have M5 := Lib.hid (m4.raw (.cells #[.int .i64 (0), .string s, .int .i64 (er)] 31))
        obtain ⟨p0, p1, p2, p3⟩ := SS.out _ M5.out.below
        have HS4 := Lib.hid (show (w4.alloc (.cells #[.int .i64 (0), .string s, .int .i64 (er)] 31)).heap.size = w4.heap.size + 1 by simp)
        clear m4 HO M o0 o1 o2 o3
        go_wp2
        go_roundw
        case rel => exact ⟨k + 1, X, gs, ka, kc, ta, tc, ga, gc, by omega, by go_num, rfl, rfl, rfl, HBK.out, by omega, HF2.out, M5.out.take 4⟩
        case measure => simp [intOf]; omega
      have hd : act X ⟨od, ok, ob, ot⟩ = (⟨0, xE, 0⟩, X) := by unfold act; rw [if_neg h0, if_neg h1, if_neg h2, if_neg h3]
      clear h0 h1 h2 h3
      have HO := Lib.hid (v_do_eq M.out (i := 0) rfl hd (hfx.mono (by omega)) hsz)
      have HF2 := Lib.hid (fine_le hfx hd hsz)
      clear hd hfx hsz
      go_wp2_with (go_at_call 11; refine (HO.out).mono ?_; rintro e w4 ⟨rfl, m4⟩; refine Hid.out ?_)
      refine Lib.hid ?_
      have m4 := (show OMem w w4 [.vault ba X, .own 3 (.slice ka X.boxes.length kc) (intVs (keysOf X)), .own 9 (.slice ta X.boxes.length tc) (strVs (textsOf X)), .own 3 (.slice ga gs.length gc) (intVs gs)] from m4)
      have M5 := Lib.hid (m4.raw (.cells #[.int .i64 (0), .string xE, .int .i64 (0)] 31))
      obtain ⟨p0, p1, p2, p3⟩ := SS.out _ M5.out.below
      have HS4 := Lib.hid (show (w4.alloc (.cells #[.int .i64 (0), .string xE, .int .i64 (0)] 31)).heap.size = w4.heap.size + 1 by simp)
      clear m4 HO M o0 o1 o2 o3
      go_wp2
      go_roundw
      case rel => exact ⟨k + 1, X, gs, ka, kc, ta, tc, ga, gc, by omega, by go_num, rfl, rfl, rfl, HBK.out, by omega, HF2.out, M5.out.take 4⟩
      case measure => simp [intOf]; omega
    · obtain rfl : k = l.length := by omega
      have hgx := hfx.good
      have hbn := hfx.boxes
      have HFX := Lib.hid hfx
      clear hfx HL
      go_wp2
      go_loopw [10] (fun i wr => ∃ b : Nat, b ≤ X.boxes.length ∧ i = .int .i64 b ∧ OMem w wr [.vault ba X, .own 3 (.slice ka X.boxes.length kc) (intVs (keysOf X)), .own 9 (.slice ta X.boxes.length tc) (strVs (textsOf X)), .own 3 (.slice ga gs.length gc) (intVs gs)]) (fun i _ => X.boxes.length - (intOf i).toNat)
      case atStart => exact ⟨0, Nat.zero_le _, rfl, M.out⟩
      case round =>
        obtain ⟨b, hb, rfl, hm⟩ := hrel
        clear M
        by_cases hlt : b < X.boxes.length
        · obtain ⟨q, s, hbx⟩ : ∃ q s, X.boxes[b]? = some (q, s) := ⟨X.boxes[b].1, X.boxes[b].2, List.getElem?_eq_getElem hlt⟩
          have hq := HFX.out.of _ (List.mem_of_getElem? hbx)
          have HST := Lib.hid (book_st HBK.out hq)
          have HOP := Lib.hid (fun k => opens_some (k := k) hbx)
          have hkr := hm.at_row (i := 1) rfl
          have htr := hm.at_row (i := 2) rfl
          rw [intVs_length, keysOf_length] at hkr
          rw [strVs_length, textsOf_length] at htr
          obtain ⟨kg, kc', hk1⟩ := own_some hkr (by omega)
          obtain ⟨tg, tc', ht1⟩ := own_some htr (by omega)
          simp only [Value.slice.injEq] at hk1 ht1
          obtain ⟨hk1, -, -⟩ := hk1
          obtain ⟨ht1, -, -⟩ := ht1
          subst hk1 ht1
          have SS := Lib.hid (fun w5 (m5 : OMem w w5 [.vault ba X, .own 3 (.slice (some ⟨kg, 0, none⟩) X.boxes.length kc) (intVs (keysOf X)), .own 9 (.slice (some ⟨tg, 0, none⟩) X.boxes.length tc) (strVs (textsOf X)), .own 3 (.slice ga gs.length gc) (intVs gs)]) => (by
            have hkr := m5.at_row (i := 1) rfl
            have htr := m5.at_row (i := 2) rfl
            rw [intVs_length, keysOf_length] at hkr
            rw [strVs_length, textsOf_length] at htr
            exact ⟨own_at hkr (by unfold intVs keysOf; rw [List.getElem?_map, List.getElem?_map, hbx]; rfl), own_at htr (by unfold strVs textsOf; rw [List.getElem?_map, List.getElem?_map, hbx]; rfl)⟩ : w5.cell? ⟨kg, b, none⟩ = some (.int .i64 (q : Int)) ∧ w5.cell? ⟨tg, b, none⟩ = some (.string s)))
          have M := Lib.hid hm
          clear hm hkr htr hbx
          go_wp2
          go_loopw [11, 12] (fun t i wr => ∃ (k : Nat) (lost : Bool), k ≤ gs.length ∧ i = .int .i64 k ∧ t = .bool lost ∧ (lost = true ↔ (q : Int) ∈ gs.take k) ∧ OMem w wr [.vault ba X, .own 3 (.slice (some ⟨kg, 0, none⟩) X.boxes.length kc) (intVs (keysOf X)), .own 9 (.slice (some ⟨tg, 0, none⟩) X.boxes.length tc) (strVs (textsOf X)), .own 3 (.slice ga gs.length gc) (intVs gs)]) (fun _ i _ => gs.length - (intOf i).toNat)
          case atStart => exact ⟨0, false, Nat.zero_le _, rfl, rfl, by simp, M.out⟩
          case round =>
            obtain ⟨k, lost, hk, rfl, rfl, hl, hm⟩ := hrel
            clear M
            have HLO := Lib.hid (show if lost then (q : Int) ∈ gs.take k else (q : Int) ∉ gs.take k from by
              cases lost with
              | true => exact hl.1 rfl
              | false => exact fun e => by have := hl.2 e; cases this)
            clear hl
            by_cases hlt2 : k < gs.length
            · have hgr := hm.at_row (i := 3) rfl
              rw [intVs_length] at hgr
              obtain ⟨gg, gc', hg1⟩ := own_some hgr (by omega)
              simp only [Value.slice.injEq] at hg1
              obtain ⟨hg1, -, -⟩ := hg1
              subst hg1
              have g0 := own_at hgr (j := k) (y := .int .i64 gs[k]) (by unfold intVs; rw [List.getElem?_map, List.getElem?_eq_getElem hlt2]; rfl)
              obtain ⟨k0, t0⟩ := SS.out _ hm
              have HTK := Lib.hid (List.take_succ_eq_append_getElem hlt2)
              generalize gs[k] = z at g0 HTK
              have M := Lib.hid hm
              clear hm hgr
              cases lost with
              | true =>
                have HLO := Lib.hid (show (q : Int) ∈ gs.take k from HLO.out)
                go_wp2
                go_quiet (fail)
                go_wp2
                go_roundw
                case rel => exact ⟨k + 1, true, by omega, by go_num, by go_num, by rw [HTK.out, List.mem_append]; exact ⟨fun _ => .inl HLO.out, fun _ => rfl⟩, M.out.fresh (below_drewN _ _)⟩
                case measure => simp [intOf]; omega
              | false =>
                have HLO := Lib.hid (show (q : Int) ∉ gs.take k from HLO.out)
                by_cases hz : z = (q : Int)
                · subst hz
                  go_wp2
                  go_quiet (fail)
                  go_wp2
                  go_roundw
                  case rel => exact ⟨k + 1, true, by omega, by go_num, by go_num, by rw [HTK.out, List.mem_append]; exact ⟨fun _ => .inr (by simp), fun _ => rfl⟩, M.out.fresh (below_drewN _ _)⟩
                  case measure => simp [intOf]; omega
                · have hz2 : (z == (q : Int)) = false := by simpa using hz
                  have HZ := Lib.hid hz
                  clear hz
                  go_wp2
                  go_quiet (fail)
                  go_wp2
                  go_roundw
                  case rel => exact ⟨k + 1, false, by omega, by go_num, by go_num, by rw [HTK.out, List.mem_append]; exact ⟨fun e => (by cases e), fun e => (by rcases e with e | e; exact absurd e HLO.out; simp at e; exact absurd e.symm HZ.out)⟩, M.out.fresh (below_drewN _ _)⟩
                  case measure => simp [intOf]; omega
            · obtain rfl : k = gs.length := by omega
              have hl := HLO.out
              rw [List.take_length] at hl
              have HLO2 := Lib.hid hl
              have M := Lib.hid hm
              clear hm hl HLO
              go_wp2
              go_loopw [13] (fun i wr => ∃ k : Int, -1 ≤ k ∧ k ≤ 64 ∧ i = .int .i64 k ∧ OMem w wr [.vault ba X, .own 3 (.slice (some ⟨kg, 0, none⟩) X.boxes.length kc) (intVs (keysOf X)), .own 9 (.slice (some ⟨tg, 0, none⟩) X.boxes.length tc) (strVs (textsOf X)), .own 3 (.slice ga gs.length gc) (intVs gs)]) (fun i _ => (64 - intOf i).toNat)
              case atStart => exact ⟨-1, by omega, by omega, rfl, M.out⟩
              case round =>
                obtain ⟨k, hk1, hk2, rfl, hm⟩ := hrel
                have M := Lib.hid hm
                clear hm
                go_wp2_with (go_at_call 13; refine (v_keys M.out (i := 0) rfl).mono ?_; rintro e w5 ⟨rfl, rfl⟩; refine Hid.out ?_)
                refine Lib.hid ?_
                by_cases hc1 : k ≤ (X.good.length : Int)
                · have hc2 : k < 64 := by omega
                  by_cases hkq : k = (q : Int)
                  · subst hkq
                    cases lost with
                    | true =>
                      have HLO2 := Lib.hid (show (q : Int) ∈ gs from HLO2.out)
                      have hop := HOP.out (q : Int)
                      rw [HST.out, if_pos (HLO2.out), if_neg (fun e => absurd e.2 (by decide))] at hop
                      unfold xE at hop
                      have HOQ := Lib.hid hop
                      clear hop
                      go_wp2_with (go_at_call 15; refine (v_open_eq M.out (i := 0) rfl HOQ.out HFX.out.text).mono ?_; rintro e w6 ⟨rfl, m6⟩; refine Hid.out ?_)
                      refine Lib.hid ?_
                      obtain ⟨k0, t0⟩ := SS.out _ m6
                      have M6 := Lib.hid m6
                      clear m6 M
                      go_wp2
                      go_roundw
                      case rel => exact ⟨(q : Int) + 1, by omega, by omega, by go_num, M6.out⟩
                      case measure => simp only [intOf]; omega
                    | false =>
                      have HLO2 := Lib.hid (show (q : Int) ∉ gs from HLO2.out)
                      have hop := HOP.out (q : Int)
                      rw [HST.out, if_neg HLO2.out, if_pos ⟨rfl, rfl⟩] at hop
                      have HOQ := Lib.hid hop
                      clear hop
                      go_wp2_with (go_at_call 15; refine (v_open_eq M.out (i := 0) rfl HOQ.out HFX.out.text).mono ?_; rintro e w6 ⟨rfl, m6⟩; refine Hid.out ?_)
                      refine Lib.hid ?_
                      obtain ⟨k0, t0⟩ := SS.out _ m6
                      have M6 := Lib.hid m6
                      clear m6 M
                      go_wp2
                      go_roundw
                      case rel => exact ⟨(q : Int) + 1, by omega, by omega, by go_num, M6.out⟩
                      case measure => simp only [intOf]; omega
                  · have hop := HOP.out k
                    rw [if_neg (fun e => hkq e.1.symm)] at hop
                    unfold xE at hop
                    have HOQ := Lib.hid hop
                    have hkq2 : (k == (q : Int)) = false := by simpa using hkq
                    clear hop hkq
                    go_wp2_with (go_at_call 15; refine (v_open_eq M.out (i := 0) rfl HOQ.out HFX.out.text).mono ?_; rintro e w6 ⟨rfl, m6⟩; refine Hid.out ?_)
                    refine Lib.hid ?_
                    obtain ⟨k0, t0⟩ := SS.out _ m6
                    have M6 := Lib.hid m6
                    clear m6 M
                    go_wp2
                    go_roundw
                    case rel => exact ⟨k + 1, by omega, by omega, by go_num, M6.out⟩
                    case measure => simp only [intOf]; omega
                · go_wp2
                  go_roundw
                  case rel => exact ⟨b + 1, by omega, by go_num, M.out⟩
                  case measure => simp [intOf]; omega
        · obtain rfl : b = X.boxes.length := by omega
          go_wp2
          go_ret
          exact ⟨rfl, hm.below⟩
end Go.Proofs.Ytkicdfoncopklaa
