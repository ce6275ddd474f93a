/- The examples of layer 6. -/
import Derived.Test.YtemokedoeneibaaSRjoin
namespace Go.Proofs.Ytemokedoeneibaa
open Go.RowKit Go.Maps Go.ChangeMaps Go.MapKept
open Sp
attribute [local go_sem ↓] Go.wp_at_zero Go.wp_at_succ

/-! ### Copies, and one share behind them -/
theorem copy_run {w : World} {u : Value} {l : List Pt} (hu : SharesAt w u l) (hn : l.length ≤ 1000) :
    ∃ a c w', (Builtin.append_ #[22, 22] 22 #[.slice (some ⟨w.heap.size, 0, none⟩) 0 0, u]).run Try.prog (w.alloc (.cells #[] 39)) = .ok (.slice a l.length c) w' ∧
      w'.ownsRow 0 39 2 (.slice a l.length c) l.length (ptVs l) ∧ Below w.heap.size w w' ∧ ∀ x, (Value.slice a l.length c).ownBlock = some x → w.heap.size ≤ x := by
  have hb := (Below.refl w.heap.size w).alloc (Nat.le_refl _) (.cells #[] 39)
  obtain ⟨a, c, w', h1, h2, h3, h4⟩ := run_push _ _ u [] l (World.ownsRow_lit w #[] 0 (e := 39) (size := 2) (base := 0) (Nat.zero_le _) (by decide) rfl) (hu.keep hb) (by simp; omega)
  have e : ([] : List Pt).length + l.length = l.length := by simp
  rw [e, List.nil_append] at h2
  rw [e] at h1 h4
  refine ⟨a, c, w', h1, h2, below_grown hb h3 fun x hx => Nat.le_of_eq (by simpa [Value.ownBlock] using hx), fun x hx => ?_⟩
  rcases h4 with q | q
  · have := q.symm.trans hx; exact Nat.le_of_eq (by simpa [Value.ownBlock] using this)
  · have := q.symm.trans hx; simp at this; omega
theorem snoc_run {w0 w : World} {v : Value} {ks : List Pt} (hb : Below w0.heap.size w0 w) (ho : w.ownsRow 0 39 2 v ks.length (ptVs ks)) (hv : ∀ x, v.ownBlock = some x → w0.heap.size ≤ x) (p : Pt) (hn : ks.length ≤ 1000) :
    ∃ a c w', (Builtin.append_ #[22, 22] 22 #[v, .slice (some ⟨w.heap.size, 0, none⟩) 1 1]).run Try.prog (w.alloc (.cells #[.int .i64 p.1, .int .i64 p.2] 39)) = .ok (.slice a (ks.length + 1) c) w' ∧
      w'.ownsRow 0 39 2 (.slice a (ks.length + 1) c) (ks.length + 1) (ptVs (ks ++ [p])) ∧ Below w0.heap.size w0 w' ∧ ∀ x, (Value.slice a (ks.length + 1) c).ownBlock = some x → w0.heap.size ≤ x := by
  have hb2 := (Below.refl w.heap.size w).alloc (Nat.le_refl _) (.cells #[.int .i64 p.1, .int .i64 p.2] 39)
  have ho2 := ownsRow_block (w' := w.alloc (.cells #[.int .i64 p.1, .int .i64 p.2] 39)) ho fun x hx => hb2.block x (ho.lt x hx).2
  obtain ⟨a, c, w', h1, h2, h3, h4⟩ := run_push _ v _ ks [p] ho2 (SharesAt.of_own (own_one w p)) (by simp; omega)
  have e : ks.length + [p].length = ks.length + 1 := by simp
  rw [e] at h1 h2 h4
  refine ⟨a, c, w', h1, h2, below_grown (hb.trans (hb2.mono hb.size)) h3 hv, fun x hx => ?_⟩
  rcases h4 with q | q
  · exact hv x (q.symm.trans hx)
  · have := q.symm.trans hx; have := hb.size; simp at *; omega

/-! ### The examples, plain -/
def xa : List Pt := [(1, 7), (2, 9)]
def xm : List Pt := [(1, 7), (2, 9), (3, 11)]
def xb : List Pt := [(1, 7), (2, 9), (3, 12)]
def x1 : List Pt := [(1, 7)]
def x2 : List Pt := [(1, 7), (1, 7)]
theorem line_on {l : List Pt} (h : l = xa ∨ l = xm) : ∀ q ∈ l, P ∣ ev [5, 2] q.1 - q.2 := by
  intro q hq
  have : ev [5, 2] q.1 - q.2 = 0 := by
    rcases h with rfl | rfl
    · simp [xa] at hq; rcases hq with rfl | rfl <;> rfl
    · simp [xm] at hq; rcases hq with rfl | rfl | rfl <;> rfl
  rw [this]; exact Int.dvd_zero _
theorem line_0 : ev [5, 2] 0 % P = 5 := by decide
theorem x_split : split 5 1 3 9 = ([(1, 5), (2, 5), (3, 5)], 0) := by decide
theorem x_a : join xa 2 = (5, 0) := by rw [join_ok (by decide) (by decide) (show ([5, 2] : List Int).length = (2 : Int).toNat from rfl) (line_on (.inl rfl)), line_0]
theorem x_m : join xm 2 = (5, 0) := by rw [join_ok (by decide) (by decide) (show ([5, 2] : List Int).length = (2 : Int).toNat from rfl) (line_on (.inr rfl)), line_0]
theorem x_b : join xb 2 = (0, 18) := by
  refine join_check (by decide) (by decide) fun ⟨cs, hl, he⟩ => ?_
  have hl : cs.length = 2 := hl
  have h1 := agree (xs := [1, 2]) (cs := cs) (ds := [5, 2]) (diff_of (by decide) (by intro x hx; simp at hx; omega)) (by rw [hl]; decide) (by decide) (fun x hx => by
    simp at hx
    rcases hx with rfl | rfl
    · exact dvd_trans3 (he (1, 7) (by simp [xb])) ⟨0, by decide⟩
    · exact dvd_trans3 (he (2, 9) (by simp [xb])) ⟨0, by decide⟩) 3
  have h2 := dvd_trans3 (dvd_swap (he (3, 12) (by simp [xb]))) h1
  exact absurd h2 (show ¬ P ∣ 12 - ev [5, 2] 3 from one_not)
theorem x_1 : join x1 2 = (0, 20) := join_few (by decide) (by decide)
theorem x_2 : join x2 2 = (0, 5) := join_wrong (l := x2) (k := 2) (by decide)
open Classical in
theorem x_f1 {s : Int} (h : 0 ≤ s ∧ s < P) : fitsB x1 2 s = true := decide_eq_true (fits_few (by decide) (by decide) h)
open Classical in
theorem x_f2 : fitsB xa 2 5 = true := decide_eq_true ((fits_iff (by decide) (by decide) (show ([5, 2] : List Int).length = (2 : Int).toNat from rfl) (line_on (.inl rfl)) (by decide)).2 line_0.symm)
open Classical in
theorem x_f3 : fitsB xa 2 6 = false := decide_eq_false fun h => by
  have := (fits_iff (l := xa) (by decide) (by decide) (show ([5, 2] : List Int).length = (2 : Int).toNat from rfl) (line_on (.inl rfl)) (by decide)).1 h
  rw [line_0] at this
  exact absurd this (by decide)
section
variable {w : World}
set_option maxHeartbeats 2000000 in
set_option maxRecDepth 100000 in
theorem small_any (w : World) : Calls Try.prog 7 #[] w fun e w' => e = .returned (.bool true) ∧ Below w.heap.size w w' := by
  have ha := World.ownsRow_lit (e := 39) (size := 2) (base := 0) w #[.int .i64 1, .int .i64 7, .int .i64 2, .int .i64 9] 2 (Nat.zero_le _) (by decide) rfl
  have sa : SharesAt _ _ xa := SharesAt.of_own ha
  have hba := (Below.refl w.heap.size w).alloc (Nat.le_refl _) (.cells #[.int .i64 1, .int .i64 7, .int .i64 2, .int .i64 9] 39)
  obtain ⟨a1, c1, wB, r1, o1, b1, n1⟩ := copy_run sa (by decide)
  have hsz : (w.alloc (.cells #[.int .i64 1, .int .i64 7, .int .i64 2, .int .i64 9] 39)).heap.size = w.heap.size + 1 := by simp
  obtain ⟨a2, c2, wC, r2, o2, b2, n2⟩ := snoc_run b1 o1 n1 (3, 11) (by decide)
  obtain ⟨a3, c3, wD, r3, o3, b3, n3⟩ := copy_run (sa.keep b2) (by decide)
  obtain ⟨a4, c4, wE, r4, o4, b4, n4⟩ := snoc_run b3 o3 n3 (3, 12) (by decide)
  have sm : SharesAt wE _ xm := (SharesAt.of_own o2).keep b4
  have sb : SharesAt wE _ xb := SharesAt.of_own o4
  have sa := sa.keep (b2.trans (b4.mono b2.size))
  have hbE := hba.trans ((b2.trans (b4.mono b2.size)).mono hba.size)
  rw [hsz] at r1
  have R1 := Lib.hid r1
  have R2 := Lib.hid r2
  have R3 := Lib.hid r3
  have R4 := Lib.hid r4
  have SA := Lib.hid sa
  have SM := Lib.hid sm
  have SB := Lib.hid sb
  have HE := Lib.hid hbE
  clear ha sa hba r1 o1 b1 n1 hsz r2 o2 b2 n2 r3 o3 b3 n3 r4 o4 b4 n4 sm sb hbE
  go_enter Try.func7, Try.ntmps7
  go_wp2_with (at_builtin; refine Hid.out ?_)
  refine Lib.hid ?_
  refine Lib.wpList_append_run _ rfl _ _ _ _ rfl _ _ rfl rfl _ _ R1.out ?_
  go_wp2_with (at_builtin; refine Hid.out ?_)
  refine Lib.hid ?_
  refine Lib.wpList_append_run _ rfl _ _ _ _ rfl _ _ rfl rfl _ _ R2.out ?_
  go_wp2_with (at_builtin; refine Hid.out ?_)
  refine Lib.hid ?_
  refine Lib.wpList_append_run _ rfl _ _ _ _ rfl _ _ rfl rfl _ _ R3.out ?_
  go_wp2_with (at_builtin; refine Hid.out ?_)
  refine Lib.hid ?_
  refine Lib.wpList_append_run _ rfl _ _ _ _ rfl _ _ rfl rfl _ _ R4.out ?_
  have HS := g_split (w := wE) 5 1 3 9
  rw [x_split] at HS
  have HS := Lib.hid HS
  clear R1 R2 R3 R4
  go_wp2_with (go_at_call 8; refine (HS.out).mono ?_; rintro e w1 ⟨v1, rfl, hv1, hb1⟩; refine Hid.out ?_)
  refine Lib.hid ?_
  have HV1 := Lib.hid hv1
  have HB1 := Lib.hid hb1
  have HJ := g_join (k := 2) (SA.out.keep hb1) (by decide)
  rw [x_a] at HJ
  have HJ := Lib.hid HJ
  clear hv1 hb1 HS
  go_wp2_with (go_at_call 10; refine (HJ.out).mono ?_; rintro e w2 ⟨rfl, m2⟩; refine Hid.out ?_)
  refine Lib.hid ?_
  have HB2 := Lib.hid (HB1.out.trans (m2.mono HB1.out.size))
  have HV1 := Lib.hid (HV1.out.keep m2)
  clear m2 HJ HB1
  have HJ := g_join (k := 2) (SM.out.keep HB2.out) (by decide)
  rw [x_m] at HJ
  have HJ := Lib.hid HJ
  go_wp2_with (go_at_call 10; refine (HJ.out).mono ?_; rintro e w3 ⟨rfl, m2⟩; refine Hid.out ?_)
  refine Lib.hid ?_
  have HB3 := Lib.hid (HB2.out.trans (m2.mono HB2.out.size))
  have HV1 := Lib.hid (HV1.out.keep m2)
  clear m2 HJ HB2
  have HJ := g_join (k := 2) (SB.out.keep HB3.out) (by decide)
  rw [x_b] at HJ
  have HJ := Lib.hid HJ
  go_wp2_with (go_at_call 10; refine (HJ.out).mono ?_; rintro e w4 ⟨rfl, m2⟩; refine Hid.out ?_)
  refine Lib.hid ?_
  have HB4 := Lib.hid (HB3.out.trans (m2.mono HB3.out.size))
  have HV1 := Lib.hid (HV1.out.keep m2)
  clear m2 HJ HB3
  have HJ := g_join (k := 2) ((SA.out.keep HB4.out).take (k := 1) (by decide)) (by decide)
  rw [show xa.take 1 = x1 from rfl, x_1] at HJ
  have HJ := Lib.hid HJ
  go_wp2_with (go_at_call 10; refine (HJ.out).mono ?_; rintro e w5 ⟨rfl, m2⟩; refine Hid.out ?_)
  refine Lib.hid ?_
  have HB5 := Lib.hid (HB4.out.trans (m2.mono HB4.out.size))
  have HV1 := Lib.hid (HV1.out.keep m2)
  clear m2 HJ HB4
  have c0 : ∀ wx, Below w5.heap.size w5 wx → wx.cell? ⟨w.heap.size, 0, none⟩ = some (.int .i64 1) ∧ wx.cell? ⟨w.heap.size, 1, none⟩ = some (.int .i64 7) := fun wx hx => by
    have := (SA.out.keep (HB5.out.trans (hx.mono HB5.out.size))).at_ (k := 0) (p := (1, 7)) rfl
    simpa using this
  have S0 := c0 _ (below_drew w5)
  have s2 : SharesAt (w5.drew.alloc (.cells #[.int .i64 1, .int .i64 7, .int .i64 1, .int .i64 7] 39)) (.slice (some ⟨w5.heap.size, 0, none⟩) 2 2) x2 := SharesAt.of_own (World.ownsRow_lit (e := 39) (size := 2) (base := 0) w5.drew #[.int .i64 1, .int .i64 7, .int .i64 1, .int .i64 7] 2 (Nat.zero_le _) (by decide) rfl)
  have hb6 := (below_drew w5).trans ((Below.refl w5.drew.heap.size w5.drew).alloc (Nat.le_refl _) (.cells #[.int .i64 1, .int .i64 7, .int .i64 1, .int .i64 7] 39))
  have HJ := g_join (k := 2) s2 (by decide)
  rw [x_2] at HJ
  have HJ := Lib.hid HJ
  have H6 := Lib.hid hb6
  clear c0 s2 hb6
  go_wp2
  refine region_till 6 (fun wx => wx.cell? ⟨w.heap.size, 0, none⟩ = some (.int .i64 1) ∧ wx.cell? ⟨w.heap.size, 1, none⟩ = some (.int .i64 7)) (by kernel_rfl) ?_
  refine till_take 0 40 false (v := ?v0) (by kernel_rfl) (by kernel_rfl) (by kernel_rfl) (by kernel_rfl) (by kernel_rfl) (fun _ _ _ h => h) ?hw0 S0 ?hy0 ?rest0
  case hw0 => (simp only [List.getElem?_toArray, List.getElem?_cons_zero, Option.elim]; rfl)
  case hy0 => (simp only [List.getElem?_toArray, List.getElem?_cons_zero, Option.elim]; intro wx _; go_simp; with_reducible rfl)
  simp only [dstOf, List.getElem?_toArray, List.getElem?_cons_zero, Option.bind, Act.put, List.setIfInBounds_toArray, List.set_cons_zero, List.set_cons_succ]
  refine till_take 1 40 false (v := ?v1) (by kernel_rfl) (by kernel_rfl) (by kernel_rfl) (by kernel_rfl) (by kernel_rfl) (fun _ _ _ h => h) ?hw1 S0 ?hy1 ?rest1
  case hw1 => (simp only [List.getElem?_toArray, List.getElem?_cons_zero, List.getElem?_cons_succ, Option.elim]; rfl)
  case hy1 => (simp only [List.getElem?_toArray, List.getElem?_cons_zero, List.getElem?_cons_succ, Option.elim]; intro wx _; go_simp; with_reducible rfl)
  simp only [dstOf, List.getElem?_toArray, List.getElem?_cons_zero, List.getElem?_cons_succ, Option.bind, Act.put, List.setIfInBounds_toArray, List.set_cons_zero, List.set_cons_succ]
  refine till_take 2 40 true (v := ?v2) (by kernel_rfl) (by kernel_rfl) (by kernel_rfl) (by kernel_rfl) (by kernel_rfl) (fun _ _ _ h => h) ?hw2 S0 ?hy2 ?rest2
  case hw2 => (simp only [List.getElem?_toArray, List.getElem?_cons_zero, List.getElem?_cons_succ, Option.elim]; rfl)
  case hy2 => (simp only [List.getElem?_toArray, List.getElem?_cons_zero, List.getElem?_cons_succ, Option.elim]; intro wx hx; have x0 := (hx trivial).1; have x1 := (hx trivial).2; go_simp; with_reducible rfl)
  simp only [dstOf, List.getElem?_toArray, List.getElem?_cons_zero, List.getElem?_cons_succ, Option.bind, Act.put, List.setIfInBounds_toArray, List.set_cons_zero, List.set_cons_succ]
  refine till_take 3 40 false (v := ?v3) (by kernel_rfl) (by kernel_rfl) (by kernel_rfl) (by kernel_rfl) (by kernel_rfl) (fun _ _ _ h => h) ?hw3 S0 ?hy3 ?rest3
  case hw3 => (simp only [List.getElem?_toArray, List.getElem?_cons_zero, List.getElem?_cons_succ, Option.elim]; rfl)
  case hy3 => (simp only [List.getElem?_toArray, List.getElem?_cons_zero, List.getElem?_cons_succ, Option.elim]; intro wx _; go_simp; with_reducible rfl)
  simp only [dstOf, List.getElem?_toArray, List.getElem?_cons_zero, List.getElem?_cons_succ, Option.bind, Act.put, List.setIfInBounds_toArray, List.set_cons_zero, List.set_cons_succ]
  refine till_take 4 40 false (v := ?v4) (by kernel_rfl) (by kernel_rfl) (by kernel_rfl) (by kernel_rfl) (by kernel_rfl) (fun _ _ _ h => h) ?hw4 S0 ?hy4 ?rest4
  case hw4 => (simp only [List.getElem?_toArray, List.getElem?_cons_zero, List.getElem?_cons_succ, Option.elim]; rfl)
  case hy4 => (simp only [List.getElem?_toArray, List.getElem?_cons_zero, List.getElem?_cons_succ, Option.elim]; intro wx _; go_simp; with_reducible rfl)
  simp only [dstOf, List.getElem?_toArray, List.getElem?_cons_zero, List.getElem?_cons_succ, Option.bind, Act.put, List.setIfInBounds_toArray, List.set_cons_zero, List.set_cons_succ]
  refine till_take 5 40 true (v := ?v5) (by kernel_rfl) (by kernel_rfl) (by kernel_rfl) (by kernel_rfl) (by kernel_rfl) (fun _ _ _ h => h) ?hw5 S0 ?hy5 ?rest5
  case hw5 => (simp only [List.getElem?_toArray, List.getElem?_cons_zero, List.getElem?_cons_succ, Option.elim]; rfl)
  case hy5 => (simp only [List.getElem?_toArray, List.getElem?_cons_zero, List.getElem?_cons_succ, Option.elim]; intro wx hx; have x0 := (hx trivial).1; have x1 := (hx trivial).2; go_simp; with_reducible rfl)
  simp only [dstOf, List.getElem?_toArray, List.getElem?_cons_zero, List.getElem?_cons_succ, Option.bind, Act.put, List.setIfInBounds_toArray, List.set_cons_zero, List.set_cons_succ]
  refine till_step 6 (by kernel_rfl) (by kernel_rfl) (fun K hK => ?_)
  simp only [List.getElem?_toArray, List.getElem?_cons_zero, List.getElem?_cons_succ, Option.elim]
  rw [if_pos (by rfl)]
  go_simp
  refine hK.out _ _ ?_
  clear hK K
  try simp only [Act.put, List.setIfInBounds_toArray, List.set_cons_zero, List.set_cons_succ]
  refine till_step 7 (by kernel_rfl) (by kernel_rfl) (fun K hK => ?_)
  simp only [List.getElem?_toArray, List.getElem?_cons_zero, List.getElem?_cons_succ, Option.elim]
  rw [if_pos (by rfl)]
  go_simp
  go_at_call 10
  refine (HJ.out).mono ?_
  rintro e w6 ⟨rfl, m2⟩
  refine hK.out _ _ ?_
  clear hK K
  try simp only [Act.put, List.setIfInBounds_toArray, List.set_cons_zero, List.set_cons_succ]
  have HB6 := Lib.hid (HB5.out.trans ((H6.out.trans (m2.mono H6.out.size)).mono HB5.out.size))
  have HV1 := Lib.hid (HV1.out.keep (H6.out.trans (m2.mono H6.out.size)))
  clear m2 HJ S0
  refine till_late 8 (v := ?v8) (by kernel_rfl) (by kernel_rfl) (by kernel_rfl) (by kernel_rfl) (fun _ _ _ h => h) (by kernel_rfl) ?hw8 ?hy8 ?rest8
  case hw8 => (simp only [List.getElem?_toArray, List.getElem?_cons_zero, List.getElem?_cons_succ, Option.elim]; rfl)
  case hy8 => (simp only [List.getElem?_toArray, List.getElem?_cons_zero, List.getElem?_cons_succ, Option.elim]; intro wx; go_simp; with_reducible rfl)
  simp only [dstOf, List.getElem?_toArray, List.getElem?_cons_zero, List.getElem?_cons_succ, Option.bind, Act.put, List.setIfInBounds_toArray, List.set_cons_zero, List.set_cons_succ]
  refine till_late 9 (v := ?v9) (by kernel_rfl) (by kernel_rfl) (by kernel_rfl) (by kernel_rfl) (fun _ _ _ h => h) (by kernel_rfl) ?hw9 ?hy9 ?rest9
  case hw9 => (simp only [List.getElem?_toArray, List.getElem?_cons_zero, List.getElem?_cons_succ, Option.elim]; rfl)
  case hy9 => (simp only [List.getElem?_toArray, List.getElem?_cons_zero, List.getElem?_cons_succ, Option.elim]; intro wx; go_simp; with_reducible rfl)
  simp only [dstOf, List.getElem?_toArray, List.getElem?_cons_zero, List.getElem?_cons_succ, Option.bind, Act.put, List.setIfInBounds_toArray, List.set_cons_zero, List.set_cons_succ]
  refine till_late 10 (v := ?v10) (by kernel_rfl) (by kernel_rfl) (by kernel_rfl) (by kernel_rfl) (fun _ _ _ h => h) (by kernel_rfl) ?hw10 ?hy10 ?rest10
  case hw10 => (simp only [List.getElem?_toArray, List.getElem?_cons_zero, List.getElem?_cons_succ, Option.elim]; rfl)
  case hy10 => (simp only [List.getElem?_toArray, List.getElem?_cons_zero, List.getElem?_cons_succ, Option.elim]; intro wx; go_simp; with_reducible rfl)
  simp only [dstOf, List.getElem?_toArray, List.getElem?_cons_zero, List.getElem?_cons_succ, Option.bind, Act.put, List.setIfInBounds_toArray, List.set_cons_zero, List.set_cons_succ]
  refine till_late 11 (v := ?v11) (by kernel_rfl) (by kernel_rfl) (by kernel_rfl) (by kernel_rfl) (fun _ _ _ h => h) (by kernel_rfl) ?hw11 ?hy11 ?rest11
  case hw11 => (simp only [List.getElem?_toArray, List.getElem?_cons_zero, List.getElem?_cons_succ, Option.elim]; rfl)
  case hy11 => (simp only [List.getElem?_toArray, List.getElem?_cons_zero, List.getElem?_cons_succ, Option.elim]; intro wx; go_simp; with_reducible rfl)
  simp only [dstOf, List.getElem?_toArray, List.getElem?_cons_zero, List.getElem?_cons_succ, Option.bind, Act.put, List.setIfInBounds_toArray, List.set_cons_zero, List.set_cons_succ]
  refine till_late 12 (v := ?v12) (by kernel_rfl) (by kernel_rfl) (by kernel_rfl) (by kernel_rfl) (fun _ _ _ h => h) (by kernel_rfl) ?hw12 ?hy12 ?rest12
  case hw12 => (simp only [List.getElem?_toArray, List.getElem?_cons_zero, List.getElem?_cons_succ, Option.elim]; rfl)
  case hy12 => (simp only [List.getElem?_toArray, List.getElem?_cons_zero, List.getElem?_cons_succ, Option.elim]; intro wx; go_simp; with_reducible rfl)
  simp only [dstOf, List.getElem?_toArray, List.getElem?_cons_zero, List.getElem?_cons_succ, Option.bind, Act.put, List.setIfInBounds_toArray, List.set_cons_zero, List.set_cons_succ]
  refine till_end (by kernel_rfl) ?_ _
  have s3 : SharesAt (w6.alloc (.cells #[.int .i64 1, .int .i64 5, .int .i64 2, .int .i64 5, .int .i64 3, .int .i64 5] 39)) (.slice (some ⟨w6.heap.size, 0, none⟩) 3 3) [(1, 5), (2, 5), (3, 5)] := SharesAt.of_own (World.ownsRow_lit (e := 39) (size := 2) (base := 0) w6 #[.int .i64 1, .int .i64 5, .int .i64 2, .int .i64 5, .int .i64 3, .int .i64 5] 3 (Nat.zero_le _) (by decide) rfl)
  have hb7 := (Below.refl w6.heap.size w6).alloc (Nat.le_refl _) (.cells #[.int .i64 1, .int .i64 5, .int .i64 2, .int .i64 5, .int .i64 3, .int .i64 5] 39)
  have HQ := r_same (HV1.out.keep hb7) s3 (by decide)
  rw [show decide ((([(1, 5), (2, 5), (3, 5)] : List Pt)) = [(1, 5), (2, 5), (3, 5)]) = true from decide_eq_true rfl] at HQ
  have HQ := Lib.hid HQ
  have HB7 := Lib.hid (HB6.out.trans (hb7.mono HB6.out.size))
  clear s3 hb7
  go_wp2_with (go_at_call 12; refine (HQ.out).mono ?_; rintro e w8 ⟨rfl, m2⟩; refine Hid.out ?_)
  refine Lib.hid ?_
  have HB8 := Lib.hid (HB7.out.trans (m2.mono HB7.out.size))
  clear m2 HQ HV1
  have HF := g_fits (k := 2) (s := 5) ((SA.out.keep HB8.out).take (k := 1) (by decide)) (by decide)
  rw [show xa.take 1 = x1 from rfl, x_f1 (by decide)] at HF
  have HF := Lib.hid HF
  go_wp2_with (go_at_call 13; refine (HF.out).mono ?_; rintro e w9 ⟨rfl, m2⟩; refine Hid.out ?_)
  refine Lib.hid ?_
  have HB9 := Lib.hid (HB8.out.trans (m2.mono HB8.out.size))
  clear m2 HF
  have HF := g_fits (k := 2) (s := 6) ((SA.out.keep HB9.out).take (k := 1) (by decide)) (by decide)
  rw [show xa.take 1 = x1 from rfl, x_f1 (by decide)] at HF
  have HF := Lib.hid HF
  go_wp2_with (go_at_call 13; refine (HF.out).mono ?_; rintro e w10 ⟨rfl, m2⟩; refine Hid.out ?_)
  refine Lib.hid ?_
  have HB10 := Lib.hid (HB9.out.trans (m2.mono HB9.out.size))
  clear m2 HF
  have HF := g_fits (k := 2) (s := 5) (SA.out.keep HB10.out) (by decide)
  rw [x_f2] at HF
  have HF := Lib.hid HF
  go_wp2_with (go_at_call 13; refine (HF.out).mono ?_; rintro e w11 ⟨rfl, m2⟩; refine Hid.out ?_)
  refine Lib.hid ?_
  have HB11 := Lib.hid (HB10.out.trans (m2.mono HB10.out.size))
  clear m2 HF
  have HF := g_fits (k := 2) (s := 6) (SA.out.keep HB11.out) (by decide)
  rw [x_f3] at HF
  have HF := Lib.hid HF
  go_wp2_with (go_at_call 13; refine (HF.out).mono ?_; rintro e w12 ⟨rfl, m2⟩; refine Hid.out ?_)
  refine Lib.hid ?_
  have HB12 := Lib.hid (HE.out.trans ((HB11.out.trans (m2.mono HB11.out.size)).mono HE.out.size))
  clear m2 HF
  go_wp2
  go_ret
  exact ⟨rfl, HB12.out⟩
end
end Go.Proofs.Ytemokedoeneibaa
