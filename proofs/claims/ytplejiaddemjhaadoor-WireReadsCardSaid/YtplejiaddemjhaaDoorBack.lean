/-
  WireBack's walk: whatever the values and the string that follows, the Go function returns true and turns nothing that was there.
  Conditions: what the library's own variables hold, and the list lies whole in memory.
-/
import Derived.Test.YtplejiaddemjhaaDoorPrefix
namespace Go.Proofs.YtplejiaddemjhaaDoor
open Go.RowKit Go.Shelf

/-- The encodings, one after the other. -/
def encs (xs : List Val) : List UInt8 := (xs.map Val.enc).flatten
theorem encs_take (xs : List Val) (i : Nat) (x : Val) (h : xs[i]? = some x) : encs (xs.take (i + 1)) = encs (xs.take i) ++ x.enc := by
  obtain ⟨hi, rfl⟩ := List.getElem?_eq_some_iff.1 h
  rw [List.take_succ_eq_append_getElem hi]; unfold encs; rw [List.map_append, List.flatten_append]; simp only [List.map_cons, List.map_nil, List.flatten_cons, List.flatten_nil, List.append_nil]
theorem encs_drop (xs : List Val) (i : Nat) (x : Val) (h : xs[i]? = some x) : encs (xs.drop i) = x.enc ++ encs (xs.drop (i + 1)) := by
  obtain ⟨hi, rfl⟩ := List.getElem?_eq_some_iff.1 h
  rw [List.drop_eq_getElem_cons hi]; rfl
theorem enc_small (x : Val) (hx : x.Ok) (hs : Small x) : x.enc.length ≤ 170000 := by
  obtain ⟨s1, s2, s3, s4⟩ := hs
  have h1 := Lib.itoa_length_le x.N hx.N.1 hx.N.2
  have h2 := Lib.itoa_length_le (num x.N) (num_i64 hx.N).1 (num_i64 hx.N).2
  have h3 := ints_len x.L hx.L
  have h4 := texts_len x.T s4
  have h5 := list_len _ s1
  have h6 := list_len _ s2
  have h7 := list_len _ s3
  unfold Val.enc
  split
  · unfold Sp.eNum Sp.eInt; split <;> simp; omega
  split
  · unfold Sp.eInt; simp; omega
  split
  · unfold Sp.eText; simp; omega
  split
  · rw [eList_length]; omega
  · rw [eList_length]; omega
theorem encs_len (xs : List Val) (h : ∀ x ∈ xs, x.enc.length ≤ 170000) : (encs xs).length ≤ 170000 * xs.length := by
  induction xs with
  | nil => simp [encs]
  | cons x xs ih =>
    have h1 := ih (fun y hy => h y (List.mem_cons_of_mem _ hy))
    have h2 := h x (by simp)
    have e : encs (x :: xs) = x.enc ++ encs xs := by simp [encs]
    rw [e, List.length_append, List.length_cons]; omega

/-- A value of a list: its cells now, and its lists at the start. -/
theorem vals_get {w wr : World} {a : Option Addr} {xs : List Val} (h : xs = [] ∨ ∃ b off, a = some ⟨b, off, none⟩ ∧ b < w.heap.size ∧ ∀ i x, xs[i]? = some x → ∃ vL vT, Cells5 w b (off + i * 5) x vL vT ∧ IntsAt w vL x.L ∧ TextsAt w vT x.T)
    (ho : ∀ x ∈ xs, x.Ok) (hb : Below w.heap.size w wr) (k : Nat) (hk : k < xs.length) :
    ∃ b off x vL vT, a = some ⟨b, off, none⟩ ∧ xs[k]? = some x ∧ x ∈ xs ∧ Cells5 wr b (off + k * 5) x vL vT ∧ Aggs w x vL vT := by
  rcases h with rfl | ⟨b, off, rfl, hbl, hc⟩
  · simp at hk
  · have hg : xs[k]? = some xs[k] := List.getElem?_eq_getElem hk
    have hm : xs[k] ∈ xs := List.getElem_mem hk
    obtain ⟨vL, vT, h5, hL, hT⟩ := hc k _ hg
    have e : ∀ o, wr.cell? ⟨b, o, none⟩ = w.cell? ⟨b, o, none⟩ := fun o => hb.cell (p := ⟨b, o, none⟩) hbl
    exact ⟨b, off, xs[k], vL, vT, rfl, hg, hm, ⟨(e _).trans h5.c0, (e _).trans h5.c1, (e _).trans h5.c2, (e _).trans h5.c3, (e _).trans h5.c4⟩, hL, hT, ho _ hm⟩

theorem rest_some (b : Nat) (s : List UInt8) (hs : s.length ≤ 400) (w : World) (h : RdAt 54 b (some s) w) :
    Calls Tryd.prog 40 #[.pointer (some ⟨b, 0, none⟩)] w (Left 54 b (.string (bs s)) (some []) w) :=
  rest_any b (some s) (by simp only [Option.getD_some]; omega) w h
theorem left_some (b : Nat) (s : List UInt8) (n : Int) (hn : (s.length : Int) = n) (w : World) (h : RdAt 54 b (some s) w) :
    Calls Tryd.prog 36 #[.pointer (some ⟨b, 0, none⟩)] w fun x w' => x = .returned (.int .i64 n) ∧ w = w' := hn ▸ left_any _ rfl b (some s) w h
theorem done_nil (b : Nat) (w : World) (h : RdAt 54 b (some []) w) :
    Calls Tryd.prog 38 #[.pointer (some ⟨b, 0, none⟩)] w fun x w' => x = .returned (.bool true) ∧ w = w' := done_any b (some []) w h
theorem done_cons (b : Nat) (y : UInt8) (ys : List UInt8) (w : World) (h : RdAt 54 b (some (y :: ys)) w) :
    Calls Tryd.prog 38 #[.pointer (some ⟨b, 0, none⟩)] w fun x w' => x = .returned (.bool false) ∧ w = w' := done_any b (some (y :: ys)) w h

set_option maxRecDepth 100000 in
theorem back_few (v : Value) (xs : List Val) (tail : List UInt8) (w : World) (he : Env w) (h : ValsAt w v xs) (hf : fewB xs = false) :
    Calls Tryd.prog 5 #[v, .string (bs tail)] w fun e w' => e = .returned (.bool true) ∧ Below w.heap.size w w' := by
  have HX := Lib.hid hf
  clear hf
  go_enter Tryd.func5, Tryd.ntmps5
  go_wp2_with (go_at_call 9; refine (small_any _ he).mono ?_; rintro e w1 ⟨rfl, b1⟩; refine Hid.out ?_)
  refine Lib.hid ?_
  have h1 := h.keep b1
  have m1 := b1.size
  go_wp2_with (go_at_call 10; refine (few_at _ xs false HX.out _ h1).mono ?_; rintro e w2 ⟨rfl, b2⟩)
  go_ret
  exact ⟨rfl, b1.trans (b2.mono m1)⟩

set_option maxRecDepth 100000 in
theorem back_long (v : Value) (xs : List Val) (tail : List UInt8) (w : World) (he : Env w) (h : ValsAt w v xs) (hf : fewB xs = true) (ht : 400 < (bs tail).size) :
    Calls Tryd.prog 5 #[v, .string (bs tail)] w fun e w' => e = .returned (.bool true) ∧ Below w.heap.size w w' := by
  have HX := Lib.hid hf
  clear hf
  go_enter Tryd.func5, Tryd.ntmps5
  go_wp2_with (go_at_call 9; refine (small_any _ he).mono ?_; rintro e w1 ⟨rfl, b1⟩; refine Hid.out ?_)
  refine Lib.hid ?_
  have h1 := h.keep b1
  have m1 := b1.size
  go_wp2_with (go_at_call 10; refine (few_at _ xs true HX.out _ h1).mono ?_; rintro e w2 ⟨rfl, b2⟩)
  go_ret
  exact ⟨rfl, b1.trans (b2.mono m1)⟩

set_option maxRecDepth 100000 in
set_option maxHeartbeats 2000000 in
theorem back_some (a : Option Addr) (cap : Nat) (xs : List Val) (tail : List UInt8) (w : World) (he : Env w) (h : ValsAt w (.slice a xs.length cap) xs) (ho : ∀ x ∈ xs, x.Ok)
    (hc : xs = [] ∨ ∃ b off, a = some ⟨b, off, none⟩ ∧ b < w.heap.size ∧ ∀ i x, xs[i]? = some x → ∃ vL vT, Cells5 w b (off + i * 5) x vL vT ∧ IntsAt w vL x.L ∧ TextsAt w vT x.T) (hf : fewB xs = true) (ht : (bs tail).size ≤ 400) :
    Calls Tryd.prog 5 #[.slice a xs.length cap, .string (bs tail)] w fun e w' => e = .returned (.bool true) ∧ Below w.heap.size w w' := by
  have HX := Lib.hid hf
  have HC := Lib.hid hc
  have HO := Lib.hid ho
  have hlen : xs.length ≤ 20 := (fewB_true hf).1
  clear hf hc ho
  go_enter Tryd.func5, Tryd.ntmps5
  go_wp2_with (go_at_call 9; refine (small_any _ he).mono ?_; rintro e w1 ⟨rfl, b1⟩; refine Hid.out ?_)
  refine Lib.hid ?_
  have h1 := h.keep b1
  have m1 := b1.size
  go_wp2_with (go_at_call 10; refine (few_at _ xs true HX.out _ h1).mono ?_; rintro e w2 ⟨rfl, b2⟩)
  have k2 : Below w.heap.size w w2 := b1.trans (b2.mono m1)
  clear b1 b2 h1 m1
  go_loopw [6, 7] (fun s i wr => ∃ k : Nat, k ≤ xs.length ∧ s = .string (bs (encs (xs.take k))) ∧ i = .int .i64 k ∧ Below w.heap.size w wr) (fun _ i _ => xs.length - (intOf i).toNat)
  case atStart => exact ⟨0, Nat.zero_le _, rfl, rfl, k2⟩
  case round =>
    obtain ⟨k, hk, rfl, rfl, kr⟩ := hrel
    have hz : (bs (encs (xs.take k))).size ≤ 3400000 := by
      rw [bs_size]
      have := encs_len (xs.take k) (fun x hx => enc_small x (HO.out x (List.mem_of_mem_take hx)) ((fewB_true HX.out).2.1 x (List.mem_of_mem_take hx)))
      rw [List.length_take] at this
      omega
    have er := he.fresh kr
    have mr := kr.size
    by_cases hlt : k < xs.length
    · obtain ⟨b, off, x, vL, vT, rfl, hg, hm, h5, ha⟩ := vals_get HC.out HO.out kr k hlt
      have sx : Small x := (fewB_true HX.out).2.1 x hm
      obtain ⟨c0, c1, c2, c3, c4⟩ := h5
      have ax := ha.keep kr
      have he1 : (bs x.enc).size ≤ 170000 := by rw [bs_size]; exact enc_small x ha.ok sx
      have HG := Lib.hid hg
      clear hg hm ha
      go_wp2_with (go_at_call 42; refine (write_any x vL vT _ er ax sx).mono ?_; rintro e w3 ⟨rfl, b3⟩)
      go_roundw
      case rel =>
        refine ⟨k + 1, by omega, ?_, by go_num, kr.trans (b3.mono mr)⟩
        rw [encs_take xs k x HG.out, bs_append]
      case measure => simp [intOf]; omega
    · have hkl : k = xs.length := by omega
      subst hkl
      rw [List.take_length] at hz ⊢
      clear hlt hk
      go_wp2_with (go_at_call 21; rw [bs_append]; refine (open_any _ _).mono ?_; rintro e w4 ⟨rfl, r4, b4⟩; refine Hid.out ?_)
      refine Lib.hid ?_
      have s4 : w.heap.size ≤ wr.heap.size := kr.size
      have g4 : G0 ≤ wr.heap.size := er.size
      have k4 : Below w.heap.size w w4 := kr.trans (b4.mono s4)
      have hz2 : (encs xs).length ≤ 3400000 := by rw [bs_size] at hz; exact hz
      have ht2 : tail.length ≤ 400 := by rw [bs_size] at ht; exact ht
      clear b4 hz er mr kr
      generalize wr.heap.size = B at s4 g4 r4 ⊢
      go_wp2
      go_loopw [4, 9] (fun _ i wr => ∃ k : Nat, k ≤ xs.length ∧ i = .int .i64 k ∧ Hid (RdAt 54 B (some (encs (xs.drop k) ++ tail)) wr) ∧ Below w.heap.size w wr) (fun _ i _ => xs.length - (intOf i).toNat)
      case atStart => exact ⟨0, Nat.zero_le _, rfl, Lib.hid r4, k4⟩
      case round =>
        obtain ⟨k, hk, rfl, rq, kq⟩ := hrel
        have eq := he.fresh kq
        have mq := kq.size
        by_cases hlt : k < xs.length
        · obtain ⟨b, off, x, vL, vT, rfl, hg, hm, h5, ha⟩ := vals_get HC.out HO.out kq k hlt
          have sx : Small x := (fewB_true HX.out).2.1 x hm
          obtain ⟨c0, c1, c2, c3, c4⟩ := h5
          have hE := equal_any w x vL vT B (some (encs (xs.drop k) ++ tail)) (by
            have h1 := encs_len (xs.drop k) (fun x hx => enc_small x (HO.out x (List.mem_of_mem_drop hx)) ((fewB_true HX.out).2.1 x (List.mem_of_mem_drop hx)))
            rw [List.length_drop] at h1
            simp only [Option.getD_some, List.length_append]
            omega) wr eq ha sx kq s4 g4 rq.out
          rw [encs_drop xs k x hg, List.append_assoc, eq_enc x ha.ok sx] at hE
          have HE := Lib.hid hE
          clear hE hg hm ha
          go_wp2_with (go_at_call 43; refine HE.out.mono ?_; rintro e w5 ⟨rfl, r5, g5⟩)
          go_roundw
          case rel =>
            exact ⟨k + 1, by omega, by go_num, Lib.hid r5, below_trans_gb kq g5 s4 (Nat.le_refl _)⟩
          case measure => simp [intOf]; omega
        · have hkl : k = xs.length := by omega
          subst hkl
          have r5 := rq.out
          rw [List.drop_length] at r5
          have r5 : RdAt 54 B (some tail) wr := r5
          clear hlt hk rq r4 k4
          have hn : (tail.length : Int) = ((bs tail).size : Int) := by rw [bs_size]
          have HN := Lib.hid hn
          have HT := Lib.hid ht2
          have hq : ((bs tail).toList == (bs tail).toList) = true := by simp
          clear hn ht2
          rcases tail with _ | ⟨y, ys⟩
          · have he0 : (bs []).toList.isEmpty = true := by rw [bs_toList]; rfl
            have he1 : (bs []).toList = [] := bs_toList []
            go_wp2_with (first | (go_at_call 36; refine (left_some _ [] ((bs []).size : Int) HN.out _ r5).mono ?_; rintro e w6 ⟨rfl, rfl⟩) | (go_at_call 38; refine (done_nil _ _ r5).mono ?_; rintro e w6 ⟨rfl, rfl⟩) | (go_at_call 40; refine (rest_some _ [] HT.out _ r5).mono ?_; rintro e w7 ⟨rfl, r7, g7⟩) | (go_at_call 36; refine (left_some _ [] 0 rfl _ r7).mono ?_; rintro e w8 ⟨rfl, rfl⟩) | (go_at_call 38; refine (done_nil _ _ r7).mono ?_; rintro e w8 ⟨rfl, rfl⟩))
            go_ret
            exact ⟨rfl, below_trans_gb kq g7 s4 (Nat.le_refl _)⟩
          · have he0 : (bs (y :: ys)).toList.isEmpty = false := by rw [bs_toList]; rfl
            have he1 : (bs (y :: ys)).toList = y :: ys := bs_toList (y :: ys)
            go_wp2_with (first | (go_at_call 36; refine (left_some _ (y :: ys) ((bs (y :: ys)).size : Int) HN.out _ r5).mono ?_; rintro e w6 ⟨rfl, rfl⟩) | (go_at_call 38; refine (done_cons _ y ys _ r5).mono ?_; rintro e w6 ⟨rfl, rfl⟩) | (go_at_call 40; refine (rest_some _ (y :: ys) HT.out _ r5).mono ?_; rintro e w7 ⟨rfl, r7, g7⟩) | (go_at_call 36; refine (left_some _ [] 0 rfl _ r7).mono ?_; rintro e w8 ⟨rfl, rfl⟩) | (go_at_call 38; refine (done_nil _ _ r7).mono ?_; rintro e w8 ⟨rfl, rfl⟩))
            go_ret
            exact ⟨rfl, below_trans_gb kq g7 s4 (Nat.le_refl _)⟩

theorem back_walk (v : Value) (xs : List Val) (t : ByteArray) (w : World) (he : Env w) (h : ValsAt w v xs) (ho : ∀ x ∈ xs, x.Ok) :
    Calls Tryd.prog 5 #[v, .string t] w fun e w' => e = .returned (.bool true) ∧ Below w.heap.size w w' := by
  obtain ⟨tail, rfl⟩ : ∃ l, t = bs l := ⟨t.data.toList, (bs_of t).symm⟩
  cases hf : fewB xs with
  | false => exact back_few v xs tail w he h hf
  | true =>
    by_cases ht : (bs tail).size ≤ 400
    · have h' := h
      obtain ⟨a, cap, rfl, hc⟩ := h'
      exact back_some a cap xs tail w he h ho hc hf ht
    · exact back_long v xs tail w he h hf (by omega)
end Go.Proofs.YtplejiaddemjhaaDoor
