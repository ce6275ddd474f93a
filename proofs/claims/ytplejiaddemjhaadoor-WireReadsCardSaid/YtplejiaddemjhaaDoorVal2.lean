/- The helpers few, number and write. -/
import Derived.Test.YtplejiaddemjhaaDoorVal
namespace Go.Proofs.YtplejiaddemjhaaDoor
open Go.RowKit Go.Shelf

theorem few_long (a : Option Addr) (len cap : Nat) (hlen : 20 < len) (w : World) :
    Calls Tryd.prog 10 #[.slice a len cap] w fun e w' => e = .returned (.bool false) ∧ Below w.heap.size w w' := by
  go_enter Tryd.func10, Tryd.ntmps10
  go_wp2
  go_ret
  exact ⟨rfl, Below.refl _ _⟩

set_option maxRecDepth 100000 in
theorem few_none (a : Option Addr) (cap : Nat) (w : World) :
    Calls Tryd.prog 10 #[.slice a 0 cap] w fun e w' => e = .returned (.bool (fewB [])) ∧ Below w.heap.size w w' := by
  go_enter Tryd.func10, Tryd.ntmps10
  go_wp2
  go_loop [3, 4] (fun n i => n = .int .i64 0 ∧ i = .int .i64 0) (fun _ _ => 0)
  case atStart => exact ⟨rfl, rfl⟩
  case round =>
    obtain ⟨rfl, rfl⟩ := hrel
    go_wp2
    go_ret
    exact ⟨ret_bool (fewB_eq (xs := []) ⟨by simp, by simp⟩ 0 rfl).symm, Below.refl _ _⟩

theorem few_any (v : Value) (xs : List Val) (w : World) (h : ValsAt w v xs) : Calls Tryd.prog 10 #[v] w fun e w' => e = .returned (.bool (fewB xs)) ∧ Below w.heap.size w w' := by
  obtain ⟨a, cap, rfl, h⟩ := h
  by_cases hl : 20 < xs.length
  · rw [fewB_not (fun h => by omega)]
    exact few_long a xs.length cap hl w
  · rcases h with rfl | ⟨b, off, rfl, hb, hc⟩
    · exact few_none a cap w
    · exact few_some xs (by omega) b off cap w hb hc

/-- A number that is not negative. -/
def num (n : Int) : Int := if n < 0 then -(n + 1) else n
theorem num_i64 {n : Int} (h : Sp.I64 n) : Sp.I64 (num n) := by
  obtain ⟨h1, h2⟩ := h
  unfold num Sp.I64
  split <;> omega
theorem num_pos (n : Int) : 0 ≤ num n := by unfold num; split <;> omega

theorem number_call (n : Int) (hn : Sp.I64 n) (w : World) : Calls Tryd.prog 59 #[.int .i64 n] w fun e w' => e = .returned (.int .i64 (num n)) ∧ w = w' := by
  obtain ⟨h1, h2⟩ := hn
  by_cases h0 : n < 0
  · have HN := Lib.hid (show num n = -(n + 1) by unfold num; rw [if_pos h0])
    go_enter Tryd.func59, Tryd.ntmps59
    go_wp2
    go_ret
    exact ⟨by rw [HN.out]; rfl, rfl⟩
  · have HN := Lib.hid (show num n = n by unfold num; rw [if_neg h0])
    go_enter Tryd.func59, Tryd.ntmps59
    go_wp2
    go_ret
    exact ⟨by rw [HN.out]; rfl, rfl⟩

/-- The encoding of a value. -/
def Val.enc (x : Val) : List UInt8 :=
  if x.K % 5 = 0 then Sp.eNum (num x.N) else if x.K % 5 = 1 then Sp.eInt x.N else if x.K % 5 = 2 then Sp.eText x.S else if x.K % 5 = 3 then Sp.eList Sp.eInt x.L else Sp.eList Sp.eText x.T

theorem IntsAt.keep {w w' : World} {v : Value} {zs : List Int} (h : IntsAt w v zs) (hb : Below w.heap.size w w') : IntsAt w' v zs := by
  obtain ⟨a, cap, h1, h2⟩ := h
  refine ⟨a, cap, h1, ?_⟩
  rcases h2 with h2 | ⟨b, off, h3, h4, h5⟩
  · exact .inl h2
  · exact .inr ⟨b, off, h3, Nat.lt_of_lt_of_le h4 hb.size, fun k hk => (hb.cell (p := ⟨b, off + k, none⟩) h4).trans (h5 k hk)⟩
theorem TextsAt.keep {w w' : World} {v : Value} {zs : List (List UInt8)} (h : TextsAt w v zs) (hb : Below w.heap.size w w') : TextsAt w' v zs := by
  obtain ⟨a, cap, h1, h2⟩ := h
  refine ⟨a, cap, h1, ?_⟩
  rcases h2 with h2 | ⟨b, off, h3, h4, h5⟩
  · exact .inl h2
  · exact .inr ⟨b, off, h3, Nat.lt_of_lt_of_le h4 hb.size, fun k hk => (hb.cell (p := ⟨b, off + k, none⟩) h4).trans (h5 k hk)⟩

/-- A value with its slices. -/
structure Aggs (w : World) (x : Val) (vL vT : Value) : Prop where
  L : IntsAt w vL x.L
  T : TextsAt w vT x.T
  ok : x.Ok
theorem Aggs.keep {w w' : World} {x : Val} {vL vT : Value} (h : Aggs w x vL vT) (hb : Below w.heap.size w w') : Aggs w' x vL vT := ⟨h.L.keep hb, h.T.keep hb, h.ok⟩

theorem ints_len (zs : List Int) (h : ∀ z ∈ zs, Sp.I64 z) : (Sp.eMany Sp.eInt zs).length ≤ 22 * zs.length := by
  induction zs with
  | nil => simp [Sp.eMany]
  | cons z zs ih =>
    have h1 := ih (fun y hy => h y (List.mem_cons_of_mem _ hy))
    have h2 := Lib.itoa_length_le z (h z (by simp)).1 (h z (by simp)).2
    simp only [Sp.eMany, List.length_append, List.length_cons, Sp.eInt]
    simp; omega
theorem texts_len (ts : List (List UInt8)) (h : ∀ t ∈ ts, t.length ≤ 400) : (Sp.eMany Sp.eText ts).length ≤ 423 * ts.length := by
  induction ts with
  | nil => simp [Sp.eMany]
  | cons t ts ih =>
    have h1 := ih (fun y hy => h y (List.mem_cons_of_mem _ hy))
    have h3 := h t (by simp)
    have h2 := Lib.itoa_length_le (t.length : Int) (by omega) (by omega)
    simp only [Sp.eMany, List.length_append, List.length_cons, Sp.eText]
    simp; omega
theorem list_len (n : Nat) (h : n ≤ 400) : (Lib.itoa (n : Int)).length ≤ 21 := Lib.itoa_length_le _ (by omega) (by omega)

/-- The box of a value that came by value. -/
theorem box_cell {w w1 : World} {cs : Array Value} {T : TypeId} (hb : Below (w.heap.size + 1) (w.alloc (.cells cs T)) w1) (j : Nat) : w1.cell? ⟨w.heap.size, j, none⟩ = cs[j]? := by
  rw [hb.cell (p := ⟨w.heap.size, j, none⟩) (Nat.lt_succ_self _)]
  exact Lib.cell_of_heap (heap_alloc_new w _) j
theorem box_below {w w1 : World} {cs : Array Value} {T : TypeId} (hb : Below (w.alloc (.cells cs T)).heap.size (w.alloc (.cells cs T)) w1) : Below (w.heap.size + 1) (w.alloc (.cells cs T)) w1 := by simpa using hb
theorem box_old {w w1 : World} {cs : Array Value} {T : TypeId} (hb : Below (w.alloc (.cells cs T)).heap.size (w.alloc (.cells cs T)) w1) : Below w.heap.size w w1 :=
  ((Below.refl _ _).alloc (Nat.le_refl _) _).trans (hb.mono (by simp))

set_option maxHeartbeats 1000000 in
theorem write_0 (x : Val) (h0 : x.K % 5 = 0) (vL vT : Value) (w : World) (he : Env w) (ha : Aggs w x vL vT) (hs : Small x) :
    Calls Tryd.prog 42 #[.agg #[.int .i64 x.K, .int .i64 x.N, .string (bs x.S), vL, vT]] w fun e w' => e = .returned (.string (bs x.enc)) ∧ Below w.heap.size w w' := by
    obtain ⟨s1, s2, s3, s4⟩ := hs
    have hK := ha.ok.K
    have hN := ha.ok.N
    have HE := Lib.hid (show x.enc = Sp.eNum (num x.N) by unfold Val.enc; rw [if_pos h0])
    have HJ := Lib.hid h0
    clear h0
    rw [HE.out]
    go_enter Tryd.func42, Tryd.ntmps42
    go_wp2_with (go_at_call 23; refine (kind_at x.K 0 hK HJ.out _ _ _ _ _).mono ?_; rintro e w1 ⟨rfl, b1⟩; refine Hid.out ?_)
    refine Lib.hid ?_
    have c1 : w1.cell? ⟨w.heap.size, 1, none⟩ = some (.int .i64 x.N) := box_cell (box_below b1) 1
    have k1 : Below w.heap.size w w1 := box_old b1
    have e1 : Env w1 := he.fresh k1
    clear b1
    go_wp2_with (first | (go_at_call 59; refine (number_call _ hN _).mono ?_; rintro e w3 ⟨rfl, rfl⟩) | (go_at_call 11; refine (wNum_any _ (num_i64 hN) _ e1).mono ?_; rintro e w2 ⟨rfl, b2⟩))
    go_ret
    exact ⟨rfl, k1.trans (b2.mono k1.size)⟩

set_option maxHeartbeats 1000000 in
theorem write_1 (x : Val) (h0 : x.K % 5 = 1) (vL vT : Value) (w : World) (he : Env w) (ha : Aggs w x vL vT) (hs : Small x) :
    Calls Tryd.prog 42 #[.agg #[.int .i64 x.K, .int .i64 x.N, .string (bs x.S), vL, vT]] w fun e w' => e = .returned (.string (bs x.enc)) ∧ Below w.heap.size w w' := by
    obtain ⟨s1, s2, s3, s4⟩ := hs
    have hK := ha.ok.K
    have hN := ha.ok.N
    have HE := Lib.hid (show x.enc = Sp.eInt x.N by unfold Val.enc; rw [if_neg (by omega)]; rw [if_pos h0])
    have HJ := Lib.hid h0
    clear h0
    rw [HE.out]
    go_enter Tryd.func42, Tryd.ntmps42
    go_wp2_with (go_at_call 23; refine (kind_at x.K 1 hK HJ.out _ _ _ _ _).mono ?_; rintro e w1 ⟨rfl, b1⟩; refine Hid.out ?_)
    refine Lib.hid ?_
    have c1 : w1.cell? ⟨w.heap.size, 1, none⟩ = some (.int .i64 x.N) := box_cell (box_below b1) 1
    have k1 : Below w.heap.size w w1 := box_old b1
    have e1 : Env w1 := he.fresh k1
    clear b1
    go_wp2_with (first | (go_at_call 13; refine (wInt_any _ hN _ e1).mono ?_; rintro e w2 ⟨rfl, b2⟩))
    go_ret
    exact ⟨rfl, k1.trans (b2.mono k1.size)⟩

set_option maxHeartbeats 1000000 in
theorem write_2 (x : Val) (h0 : x.K % 5 = 2) (vL vT : Value) (w : World) (he : Env w) (ha : Aggs w x vL vT) (hs : Small x) :
    Calls Tryd.prog 42 #[.agg #[.int .i64 x.K, .int .i64 x.N, .string (bs x.S), vL, vT]] w fun e w' => e = .returned (.string (bs x.enc)) ∧ Below w.heap.size w w' := by
    obtain ⟨s1, s2, s3, s4⟩ := hs
    have hK := ha.ok.K
    have hN := ha.ok.N
    have HE := Lib.hid (show x.enc = Sp.eText x.S by unfold Val.enc; rw [if_neg (by omega)]; rw [if_neg (by omega)]; rw [if_pos h0])
    have HJ := Lib.hid h0
    clear h0
    rw [HE.out]
    go_enter Tryd.func42, Tryd.ntmps42
    go_wp2_with (go_at_call 23; refine (kind_at x.K 2 hK HJ.out _ _ _ _ _).mono ?_; rintro e w1 ⟨rfl, b1⟩; refine Hid.out ?_)
    refine Lib.hid ?_
    have c1 : w1.cell? ⟨w.heap.size, 2, none⟩ = some (.string (bs x.S)) := box_cell (box_below b1) 2
    have k1 : Below w.heap.size w w1 := box_old b1
    have e1 : Env w1 := he.fresh k1
    clear b1
    go_wp2_with (first | (go_at_call 15; refine (wText_any _ (by omega) _ e1).mono ?_; rintro e w2 ⟨rfl, b2⟩))
    go_ret
    exact ⟨rfl, k1.trans (b2.mono k1.size)⟩

set_option maxHeartbeats 1000000 in
theorem write_3 (x : Val) (h0 : x.K % 5 = 3) (vL vT : Value) (w : World) (he : Env w) (ha : Aggs w x vL vT) (hs : Small x) :
    Calls Tryd.prog 42 #[.agg #[.int .i64 x.K, .int .i64 x.N, .string (bs x.S), vL, vT]] w fun e w' => e = .returned (.string (bs x.enc)) ∧ Below w.heap.size w w' := by
    obtain ⟨s1, s2, s3, s4⟩ := hs
    have hK := ha.ok.K
    have hN := ha.ok.N
    have HE := Lib.hid (show x.enc = Sp.eList Sp.eInt x.L by unfold Val.enc; rw [if_neg (by omega)]; rw [if_neg (by omega)]; rw [if_neg (by omega)]; rw [if_pos h0])
    have HJ := Lib.hid h0
    clear h0
    rw [HE.out]
    go_enter Tryd.func42, Tryd.ntmps42
    go_wp2_with (go_at_call 23; refine (kind_at x.K 3 hK HJ.out _ _ _ _ _).mono ?_; rintro e w1 ⟨rfl, b1⟩; refine Hid.out ?_)
    refine Lib.hid ?_
    have c1 : w1.cell? ⟨w.heap.size, 3, none⟩ = some (vL) := box_cell (box_below b1) 3
    have k1 : Below w.heap.size w w1 := box_old b1
    have e1 : Env w1 := he.fresh k1
    clear b1
    have hm := ints_len x.L ha.ok.L
    have hl := list_len _ s2
    have hk := eList_length Sp.eInt x.L
    have a1 := ha.keep k1
    have HL := Lib.hid ha.ok.L
    go_wp2_with (first | (go_at_call 17; refine (wNums_any _ _ _ e1 a1.L HL.out (by omega) (by omega)).mono ?_; rintro e w2 ⟨rfl, b2⟩))
    go_ret
    exact ⟨rfl, k1.trans (b2.mono k1.size)⟩

set_option maxHeartbeats 1000000 in
theorem write_4 (x : Val) (h0 : x.K % 5 = 4) (vL vT : Value) (w : World) (he : Env w) (ha : Aggs w x vL vT) (hs : Small x) :
    Calls Tryd.prog 42 #[.agg #[.int .i64 x.K, .int .i64 x.N, .string (bs x.S), vL, vT]] w fun e w' => e = .returned (.string (bs x.enc)) ∧ Below w.heap.size w w' := by
    obtain ⟨s1, s2, s3, s4⟩ := hs
    have hK := ha.ok.K
    have hN := ha.ok.N
    have HE := Lib.hid (show x.enc = Sp.eList Sp.eText x.T by unfold Val.enc; rw [if_neg (by omega), if_neg (by omega), if_neg (by omega), if_neg (by omega)])
    have HJ := Lib.hid h0
    clear h0
    rw [HE.out]
    go_enter Tryd.func42, Tryd.ntmps42
    go_wp2_with (go_at_call 23; refine (kind_at x.K 4 hK HJ.out _ _ _ _ _).mono ?_; rintro e w1 ⟨rfl, b1⟩; refine Hid.out ?_)
    refine Lib.hid ?_
    have c1 : w1.cell? ⟨w.heap.size, 4, none⟩ = some (vT) := box_cell (box_below b1) 4
    have k1 : Below w.heap.size w w1 := box_old b1
    have e1 : Env w1 := he.fresh k1
    clear b1
    have hm := texts_len x.T s4
    have hl := list_len _ s3
    have hk := eList_length Sp.eText x.T
    have a1 := ha.keep k1
    have HL := Lib.hid s4
    clear s4
    go_wp2_with (first | (go_at_call 19; refine (wTexts_any _ _ _ e1 a1.T (fun z hz => by have := HL.out z hz; omega) (by omega) (by omega)).mono ?_; rintro e w2 ⟨rfl, b2⟩))
    go_ret
    exact ⟨rfl, k1.trans (b2.mono k1.size)⟩

theorem write_any (x : Val) (vL vT : Value) (w : World) (he : Env w) (ha : Aggs w x vL vT) (hs : Small x) :
    Calls Tryd.prog 42 #[.agg #[.int .i64 x.K, .int .i64 x.N, .string (bs x.S), vL, vT]] w fun e w' => e = .returned (.string (bs x.enc)) ∧ Below w.heap.size w w' := by
  by_cases h0 : x.K % 5 = 0
  · exact write_0 x h0 vL vT w he ha hs
  by_cases h1 : x.K % 5 = 1
  · exact write_1 x h1 vL vT w he ha hs
  by_cases h2 : x.K % 5 = 2
  · exact write_2 x h2 vL vT w he ha hs
  by_cases h3 : x.K % 5 = 3
  · exact write_3 x h3 vL vT w he ha hs
  · exact write_4 x (by omega) vL vT w he ha hs
end Go.Proofs.YtplejiaddemjhaaDoor
