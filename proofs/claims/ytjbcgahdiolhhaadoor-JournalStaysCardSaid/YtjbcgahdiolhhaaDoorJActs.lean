/- Operations, and the statements' own helpers. -/
import Derived.Test.YtjbcgahdiolhhaaDoorJSmall
namespace Go.Proofs.YtjbcgahdiolhhaaDoor.D2
open Go.RowKit Go.Maps Go.ChangeMaps Go.MapKept
open Dp Jp
attribute [local go_sem ↓] Go.wp_at_zero Go.wp_at_succ

/-- An operation. -/
structure Op1 where
  K : Int
  S : List UInt8
  N : Int
  Keep : List Int
structure Op1.Ok (x : Op1) : Prop where
  K : I64 x.K
  N : I64 x.N
  Keep : ∀ z ∈ x.Keep, I64 z
structure OCells (w : World) (b o : Nat) (x : Op1) (vk : Value) : Prop where
  c0 : w.cell? ⟨b, o, none⟩ = some (.int .i64 x.K)
  c1 : w.cell? ⟨b, o + 1, none⟩ = some (.string (bs x.S))
  c2 : w.cell? ⟨b, o + 2, none⟩ = some (.int .i64 x.N)
  c3 : w.cell? ⟨b, o + 3, none⟩ = some vk
def OpsIn (w : World) (a : Option Addr) (xs : List Op1) : Prop :=
  xs = [] ∨ ∃ b off, a = some ⟨b, off, none⟩ ∧ ∀ i x, xs[i]? = some x → ∃ vk, OCells w b (off + i * 4) x vk ∧ SrcIs w 1 vk x.Keep.length (intVs x.Keep)

def FewO1 (x : Op1) : Prop := x.S.length ≤ 200 ∧ x.Keep.length ≤ 50
open Classical in
noncomputable def fewO (xs : List Op1) : Bool := decide (xs.length ≤ 25 ∧ ∀ x ∈ xs, FewO1 x)
theorem fewO_true {xs : List Op1} (h : fewO xs = true) : xs.length ≤ 25 ∧ ∀ x ∈ xs, FewO1 x := by simpa [fewO] using h
theorem fewO_not {xs : List Op1} (h : ¬ (xs.length ≤ 25 ∧ ∀ x ∈ xs, FewO1 x)) : fewO xs = false := by
  unfold fewO; rw [decide_eq_false_iff_not]; exact h
theorem fewO_eq {xs : List Op1} (h : ∀ x ∈ xs, FewO1 x) : fewO xs = decide ((xs.length : Int) ≤ 25) := by
  unfold fewO
  rw [decide_eq_decide]
  exact ⟨fun q => by have := q.1; omega, fun q => ⟨by omega, h⟩⟩
theorem OpsIn.keep {w w' : World} {a : Option Addr} {xs : List Op1} (h : OpsIn w a xs) (hb : Below w.heap.size w w') : OpsIn w' a xs := by
  rcases h with h | ⟨b, off, h1, h2⟩
  · exact .inl h
  · refine .inr ⟨b, off, h1, fun i x hx => ?_⟩
    obtain ⟨vk, h3, h4⟩ := h2 i x hx
    exact ⟨vk, ⟨below_cell h3.c0 hb, below_cell h3.c1 hb, below_cell h3.c2 hb, below_cell h3.c3 hb⟩, src_keep h4 hb⟩
theorem OpsIn.get {w : World} {a : Option Addr} {xs : List Op1} (h : OpsIn w a xs) {i : Nat} {x : Op1} (hx : xs[i]? = some x) : ∃ b off vk, a = some ⟨b, off, none⟩ ∧ OCells w b (off + i * 4) x vk ∧ SrcIs w 1 vk x.Keep.length (intVs x.Keep) := by
  rcases h with h | ⟨b, off, h1, h2⟩
  · subst h; simp at hx
  · obtain ⟨vk, h3, h4⟩ := h2 i x hx
    exact ⟨b, off, vk, h1, h3, h4⟩
/-- The operations that came in. -/
structure OArgs (w0 : World) (a : Option Addr) (xs : List Op1) : Prop where
  at_ : OpsIn w0 a xs
  ok : ∀ x ∈ xs, x.Ok
theorem nums_src {w : World} {v : Value} {ks : List Int} (h : SrcIs w 1 v ks.length (intVs ks)) (hk : ∀ z ∈ ks, I64 z) : Nums w w v ks := by
  refine ⟨h, hk, fun ad n c hv hn => ?_⟩
  rcases h.2 with ⟨h1, _⟩ | ⟨ad', cap, h1, h2, _⟩
  · rw [h1] at hv; cases hv
  · rw [h1] at hv
    cases hv
    rcases ks with _ | ⟨z, ks⟩
    · simp at hn
    · have := Lib.lt_of_cell (h2 0 (.int .i64 z) rfl)
      have hb : (ad.add 0).block = ad.block := by cases ad; unfold Addr.add; split <;> rfl
      rwa [hb] at this
theorem OArgs.get {w0 w : World} {a : Option Addr} {xs : List Op1} (h : OArgs w0 a xs) (hb : Below w0.heap.size w0 w) {i : Nat} {x : Op1} (hx : xs[i]? = some x) :
    ∃ b off va vc, a = some ⟨b, off, none⟩ ∧ OCells w b (off + i * 4) x (.slice va x.Keep.length vc) ∧ Nums w0 w (.slice va x.Keep.length vc) x.Keep ∧ x.Ok := by
  obtain ⟨b, off, vk, h1, h2, h3⟩ := h.at_.get hx
  have hk := h.ok x (List.mem_of_getElem? hx)
  obtain ⟨va, vc, rfl⟩ := src_form h3
  exact ⟨b, off, va, vc, h1, ⟨below_cell h2.c0 hb, below_cell h2.c1 hb, below_cell h2.c2 hb, below_cell h2.c3 hb⟩, (nums_src h3 hk.Keep).to hb, hk⟩
set_option maxHeartbeats 2000000 in
set_option maxRecDepth 100000 in
theorem fewO_any (a : Option Addr) (cap : Nat) (xs : List Op1) (w : World) (hlen : xs.length ≤ 9223372036854775807) (h : OpsIn w a xs) :
    Calls Tryd.prog 8 #[.slice a xs.length cap] w fun e w' => e = .returned (.bool (fewO xs)) ∧ w = w' := by
  have HX := Lib.hid h
  clear h
  go_enter Tryd.func8, Tryd.ntmps8
  go_wp2
  go_loop [3] (fun i => ∃ k : Nat, k ≤ xs.length ∧ i = .int .i64 (k : Int) ∧ Hid (∀ j x, j < k → xs[j]? = some x → FewO1 x)) (fun i => xs.length - (intOf i).toNat)
  case atStart => exact ⟨0, Nat.zero_le _, rfl, Lib.hid fun j x hj => absurd hj (Nat.not_lt_zero j)⟩
  case round =>
    obtain ⟨k, hk, rfl, HS⟩ := hrel
    by_cases hlt : k < xs.length
    · obtain ⟨x, hx⟩ : ∃ x, xs[k]? = some x := ⟨_, List.getElem?_eq_getElem hlt⟩
      obtain ⟨b, off, vk, rfl, hc, hs⟩ := HX.out.get hx
      obtain ⟨ka, kc, rfl⟩ := src_form hs
      obtain ⟨_, c1, _, c3⟩ := hc
      have hm := List.mem_of_getElem? hx
      have HXX := Lib.hid hx
      have hsz : ((bs x.S).size : Int) = (x.S.length : Int) := by rw [bs_size]
      have HSZ := Lib.hid hsz
      clear hx hs hsz
      by_cases b1 : 200 < (bs x.S).size
      · have HF := Lib.hid (fewO_not (xs := xs) (fun h => by have := (h.2 x hm).1; have := HSZ.out; omega))
        go_wp2
        go_ret
        exact ⟨ret_bool HF.out.symm, rfl⟩
      by_cases b2 : 50 < x.Keep.length
      · have HF := Lib.hid (fewO_not (xs := xs) (fun h => by have := (h.2 x hm).2; omega))
        go_wp2
        go_ret
        exact ⟨ret_bool HF.out.symm, rfl⟩
      have HF := Lib.hid (show FewO1 x from ⟨by have := HSZ.out; omega, by omega⟩)
      go_wp2
      go_round
      case rel =>
        refine ⟨k + 1, by omega, by go_num, Lib.hid fun j y hj hy => ?_⟩
        by_cases he : j = k
        · subst he; rw [HXX.out] at hy; cases hy; exact HF.out
        · exact HS.out j y (by omega) hy
      case measure => simp [intOf]; omega
    · have HF := Lib.hid (fewO_eq (xs := xs) fun x hx => by
        obtain ⟨j, hj, rfl⟩ := List.mem_iff_getElem.1 hx
        exact HS.out j _ (by omega) (List.getElem?_eq_getElem hj))
      go_wp2
      go_ret
      exact ⟨ret_bool HF.out.symm, rfl⟩

/-! ### texts, begins, disky -/
def fewT (ts : List (List UInt8)) : Bool := decide (ts.length ≤ 8 ∧ ∀ t ∈ ts, t.length ≤ 200)
theorem fewT_true {ts : List (List UInt8)} (h : fewT ts = true) : ts.length ≤ 8 ∧ ∀ t ∈ ts, t.length ≤ 200 := by simpa [fewT] using h
theorem fewT_not {ts : List (List UInt8)} (h : ¬ (ts.length ≤ 8 ∧ ∀ t ∈ ts, t.length ≤ 200)) : fewT ts = false := by
  unfold fewT; rw [decide_eq_false_iff_not]; exact h
theorem fewT_eq {ts : List (List UInt8)} (h : ∀ t ∈ ts, t.length ≤ 200) : fewT ts = decide ((ts.length : Int) ≤ 8) := by
  unfold fewT
  rw [decide_eq_decide]
  exact ⟨fun q => by have := q.1; omega, fun q => ⟨by omega, h⟩⟩
theorem texts_at {w : World} {v : Value} {ts : List (List UInt8)} (h : TextsAt w v ts) : ∃ a cap, v = .slice a ts.length cap ∧ ∀ k x, ts[k]? = some x → ∃ b off, a = some ⟨b, off, none⟩ ∧ w.cell? ⟨b, off + k, none⟩ = some (.string (bs x)) := by
  obtain ⟨a, cap, h1, h2⟩ := h
  refine ⟨a, cap, h1, fun k x hk => ?_⟩
  obtain ⟨hlt, he⟩ := List.getElem?_eq_some_iff.1 hk
  rcases h2 with rfl | ⟨b, off, h3, _, h5⟩
  · simp at hlt
  · refine ⟨b, off, h3, ?_⟩
    have := h5 k hlt
    rw [List.getD_eq_getElem?_getD, hk] at this
    exact this
set_option maxHeartbeats 2000000 in
set_option maxRecDepth 100000 in
theorem fewT_any (v : Value) (ts : List (List UInt8)) (w : World) (hlen : ts.length ≤ 9223372036854775807) (h : TextsAt w v ts) :
    Calls Tryd.prog 21 #[v] w fun e w' => e = .returned (.bool (fewT ts)) ∧ w = w' := by
  obtain ⟨a, cap, rfl, hget⟩ := texts_at h
  have HX := Lib.hid hget
  clear h hget
  go_enter Tryd.func21, Tryd.ntmps21
  go_wp2
  go_loop [3] (fun i => ∃ k : Nat, k ≤ ts.length ∧ i = .int .i64 (k : Int) ∧ Hid (∀ j x, j < k → ts[j]? = some x → x.length ≤ 200)) (fun i => ts.length - (intOf i).toNat)
  case atStart => exact ⟨0, Nat.zero_le _, rfl, Lib.hid fun j x hj => absurd hj (Nat.not_lt_zero j)⟩
  case round =>
    obtain ⟨k, hk, rfl, HS⟩ := hrel
    by_cases hlt : k < ts.length
    · obtain ⟨x, hx⟩ : ∃ x, ts[k]? = some x := ⟨_, List.getElem?_eq_getElem hlt⟩
      obtain ⟨b, off, rfl, hc⟩ := HX.out k x hx
      have hm := List.mem_of_getElem? hx
      have HXX := Lib.hid hx
      have hsz : ((bs x).size : Int) = (x.length : Int) := by rw [bs_size]
      have HSZ := Lib.hid hsz
      clear hx hsz
      by_cases b1 : 200 < (bs x).size
      · have HF := Lib.hid (fewT_not (ts := ts) (fun h => by have := h.2 x hm; have := HSZ.out; omega))
        go_wp2
        go_ret
        exact ⟨ret_bool HF.out.symm, rfl⟩
      have HF := Lib.hid (show x.length ≤ 200 from by have := HSZ.out; omega)
      go_wp2
      go_round
      case rel =>
        refine ⟨k + 1, by omega, by go_num, Lib.hid fun j y hj hy => ?_⟩
        by_cases he : j = k
        · subst he; rw [HXX.out] at hy; cases hy; exact HF.out
        · exact HS.out j y (by omega) hy
      case measure => simp [intOf]; omega
    · have HF := Lib.hid (fewT_eq (ts := ts) fun x hx => by
        obtain ⟨j, hj, rfl⟩ := List.mem_iff_getElem.1 hx
        exact HS.out j _ (by omega) (List.getElem?_eq_getElem hj))
      go_wp2
      go_ret
      exact ⟨ret_bool HF.out.symm, rfl⟩
def isDisky (e : Int) : Bool := decide (e = 8) || decide (e = 9)
theorem disky_any (e : Int) (w : World) : Calls Tryd.prog 15 #[.int .i64 e] w fun x w' => x = .returned (.bool (isDisky e)) ∧ w = w' := by
  by_cases h8 : e = 8
  · subst h8
    go_enter Tryd.func15, Tryd.ntmps15
    go_wp2
    go_ret
    exact ⟨rfl, rfl⟩
  · by_cases h9 : e = 9
    · subst h9
      go_enter Tryd.func15, Tryd.ntmps15
      go_wp2
      go_ret
      exact ⟨rfl, rfl⟩
    · have HF := Lib.hid (show isDisky e = false by simp [isDisky, h8, h9])
      go_enter Tryd.func15, Tryd.ntmps15
      go_wp2
      go_ret
      exact ⟨ret_bool (by rw [HF.out]; simp [h8, h9]), rfl⟩
theorem texts_take {w : World} {a : Option Addr} {n cap : Nat} {ts : List (List UInt8)} (h : TextsAt w (.slice a n cap) ts) {m : Nat} (hm : m ≤ ts.length) (cap' : Nat) : TextsAt w (.slice a m cap') (ts.take m) := by
  obtain ⟨a', c, h1, h2⟩ := h
  simp only [Value.slice.injEq] at h1
  obtain ⟨rfl, _, _⟩ := h1
  refine ⟨a, cap', by rw [List.length_take, Nat.min_eq_left hm], ?_⟩
  rcases h2 with rfl | ⟨b, off, h3, h4, h5⟩
  · exact .inl (by simp)
  · refine .inr ⟨b, off, h3, h4, fun k hk => ?_⟩
    rw [List.length_take] at hk
    rw [h5 k (by omega), List.getD_eq_getElem?_getD, List.getD_eq_getElem?_getD, List.getElem?_take_of_lt (by omega)]
def beginsB (l a : List (List UInt8)) : Bool := decide (l.take a.length = a)
theorem beginsB_eq {l a : List (List UInt8)} : beginsB l a = decide (l.take a.length = a) := rfl
theorem beginsB_true {l a : List (List UInt8)} (h : a <+: l) : beginsB l a = true := decide_eq_true (List.prefix_iff_eq_take.1 h).symm
set_option maxHeartbeats 2000000 in
set_option maxRecDepth 100000 in
theorem begins_any (vl va : Value) (l a : List (List UInt8)) (w : World) (hl : w.ownsRow 0 9 1 vl l.length (strVs l)) (hll : l.length ≤ 1099511627776) (ha : TextsAt w va a) (hal : a.length ≤ 1099511627776) :
    Calls Tryd.prog 20 #[vl, va] w fun e w' => e = .returned (.bool (beginsB l a)) ∧ Below w.heap.size w w' := by
  have htl : TextsAt w vl l := by
    obtain ⟨a, cap, e1, e2⟩ := listFrom_own (lo := 0) (f := fun z : List UInt8 => Value.string (bs z)) hl
    refine ⟨a, cap, e1, ?_⟩
    rcases e2 with h2 | ⟨b, h3, _, h5, h6⟩
    · exact .inl h2
    · exact .inr ⟨b, 0, h3, h5, fun k hk => by rw [Nat.zero_add, List.getD_eq_getElem?_getD, List.getElem?_eq_getElem hk]; exact h6 k _ (List.getElem?_eq_getElem hk)⟩
  have HT := Lib.hid htl
  have HA := Lib.hid ha
  obtain ⟨aa, ac, rfl, _⟩ := ha
  by_cases hn : a.length ≤ l.length
  · rcases hl.2 with ⟨rfl, h0⟩ | ⟨g, cap, cur, rfl, _, _, hnc, _, _, _⟩
    · have hz : a.length = 0 := by omega
      obtain rfl : a = [] := List.eq_nil_of_length_eq_zero hz
      obtain rfl : l = [] := List.eq_nil_of_length_eq_zero h0
      have HB := Lib.hid (show beginsB ([] : List (List UInt8)) [] = true from beginsB_true (List.prefix_refl _))
      have HX := Lib.hid (sameTexts_any (.slice none 0 0) (.slice aa 0 ac) [] [] (by decide) w HT.out HA.out)
      clear hl htl h0 hn
      go_enter Tryd.func20, Tryd.ntmps20
      go_wp2_with (go_at_call 16; refine HX.out.mono ?_; rintro e w1 ⟨rfl, b1⟩)
      go_ret
      exact ⟨ret_bool (by rw [HB.out]), b1⟩
    · have HB := Lib.hid (beginsB_eq (l := l) (a := a))
      have HX := Lib.hid (sameTexts_any _ (.slice aa a.length ac) (l.take a.length) a (by omega) w (texts_take HT.out hn cap) HA.out)
      have hmin : min (a.length : Int) (l.length : Int) = (a.length : Int) := by omega
      clear hl htl
      go_enter Tryd.func20, Tryd.ntmps20
      go_wp2_with (go_at_call 16; refine HX.out.mono ?_; rintro e w1 ⟨rfl, b1⟩)
      go_ret
      exact ⟨ret_bool HB.out.symm, b1⟩
  · have HB := Lib.hid (show beginsB l a = false by unfold beginsB; rw [decide_eq_false_iff_not]; intro h; have := congrArg List.length h; rw [List.length_take] at this; omega)
    obtain ⟨la, lc, rfl⟩ := own_form hl
    clear hl htl
    go_enter Tryd.func20, Tryd.ntmps20
    go_wp2
    go_ret
    exact ⟨ret_bool HB.out.symm, Below.refl _ _⟩
end Go.Proofs.YtjbcgahdiolhhaaDoor.D2
