/- What wire's writers return. -/
import Derived.Test.YtplejiaddemjhaaDoorBase
namespace Go.Proofs.YtplejiaddemjhaaDoor
open Go.RowKit Go.Shelf

theorem bs_append (a b : List UInt8) : bs a ++ bs b = bs (a ++ b) := ByteArray.mk_append_mk a b
theorem bs_snoc (a : List UInt8) (c : UInt8) : bs a ++ (⟨#[c]⟩ : ByteArray) = bs (a ++ [c]) := ByteArray.mk_append_mk a [c]
theorem ret_string {a b : ByteArray} (h : a = b) : Ending.returned (.string a) = .returned (.string b) := by rw [h]

/-- A builder stays one while what was there stands. -/
theorem builder_old {T e : TypeId} {B b : Nat} {xs : List Value} {w w' : World} (h : Lib.IsBuilder T e B b xs w) (hb : Below w.heap.size w w') : Lib.IsBuilder T e B b xs w' := by
  have one : ∀ p, Lib.BuilderAt T e B b p xs w → Lib.BuilderAt T e B b p xs w' := by
    rintro p ⟨h1, v, h2, h3, h4⟩
    have hlt : b < w.heap.size := (Array.getElem?_eq_some_iff.1 h2).1
    exact ⟨h1, v, (hb.block b hlt).trans h2, h3.kept (gb_of_below hb none) (by
      cases hv : v.ownBlock with
      | none => exact .inl rfl
      | some g => exact .inr (by simp)), h4⟩
  rcases h with h | h
  · exact .inl (one _ h)
  · exact .inr (one _ h)

theorem strCells_eq (s : ByteArray) : Lib.strCells s = Lib.byteCells s.data.toList := rfl

set_option maxHeartbeats 400000 in
theorem wInt_any (n : Int) (hn : Sp.I64 n) (w : World) (he : Env w) :
    Calls Tryd.prog 13 #[.int .i64 n] w fun e w' => e = .returned (.string (bs (Sp.eInt n))) ∧ Below w.heap.size w w' := by
  have hl : (bs (Lib.itoa n)).size ≤ 21 := by rw [bs_size]; exact Lib.itoa_length_le n hn.1 hn.2
  go_enter Tryd.func13, Tryd.ntmps13
  go_wp2_with (go_at_call 44; refine (itoa_any n hn _ he).mono ?_; rintro e w' ⟨rfl, hb⟩)
  go_ret
  exact ⟨ret_string (bs_snoc _ _), hb⟩

theorem wNum_neg (n : Int) (h : n < 0) (w : World) : Calls Tryd.prog 11 #[.int .i64 n] w fun e w' => e = .returned (.string (bs (Sp.eNum n))) ∧ Below w.heap.size w w' := by
  go_enter Tryd.func11, Tryd.ntmps11
  go_wp2
  go_ret
  exact ⟨ret_string (by unfold Sp.eNum; rw [if_pos h]; rfl), Below.refl _ _⟩
theorem wNum_pos (n : Int) (h : 0 ≤ n) (hn : Sp.I64 n) (w : World) (he : Env w) : Calls Tryd.prog 11 #[.int .i64 n] w fun e w' => e = .returned (.string (bs (Sp.eNum n))) ∧ Below w.heap.size w w' := by
  go_enter Tryd.func11, Tryd.ntmps11
  go_wp2_with (go_at_call 13; refine (wInt_any n hn _ he).mono ?_; rintro e w' ⟨rfl, hb⟩)
  go_ret
  exact ⟨ret_string (by unfold Sp.eNum; rw [if_neg (by omega)]), hb⟩
theorem wNum_any (n : Int) (hn : Sp.I64 n) (w : World) (he : Env w) : Calls Tryd.prog 11 #[.int .i64 n] w fun e w' => e = .returned (.string (bs (Sp.eNum n))) ∧ Below w.heap.size w w' := by
  by_cases h : n < 0
  · exact wNum_neg n h w
  · exact wNum_pos n (by omega) hn w he

set_option maxHeartbeats 400000 in
theorem wText_any (l : List UInt8) (hl : l.length ≤ 281474976710656) (w : World) (he : Env w) :
    Calls Tryd.prog 15 #[.string (bs l)] w fun e w' => e = .returned (.string (bs (Sp.eText l))) ∧ Below w.heap.size w w' := by
  have hi : (bs (Lib.itoa (l.length : Int))).size ≤ 21 := by rw [bs_size]; exact Lib.itoa_length_le _ (by omega) (by omega)
  have hs : (bs l).size ≤ 281474976710656 := by rw [bs_size]; exact hl
  have HS := Lib.hid (bs_size l)
  go_enter Tryd.func15, Tryd.ntmps15
  go_wp2_with (go_at_call 44; rw [HS.out]; refine (itoa_any _ ⟨by omega, by omega⟩ _ he).mono ?_; rintro e w' ⟨rfl, hb⟩)
  go_ret
  exact ⟨ret_string (by rw [bs_snoc, bs_append, bs_snoc]; unfold Sp.eText; simp), hb⟩

/-! ### Lists -/
/-- A slice that reads as a list of ints. -/
def IntsAt (w : World) (v : Value) (zs : List Int) : Prop :=
  ∃ a cap, v = .slice a zs.length cap ∧ (zs = [] ∨ ∃ b off, a = some ⟨b, off, none⟩ ∧ b < w.heap.size ∧ ∀ k, k < zs.length → w.cell? ⟨b, off + k, none⟩ = some (.int .i64 (zs.getD k 0)))

theorem eMany_take {α : Type} (f : α → List UInt8) (zs : List α) (k : Nat) (h : k < zs.length) : Sp.eMany f (zs.take (k + 1)) = Sp.eMany f (zs.take k) ++ f zs[k] := by
  rw [List.take_succ_eq_append_getElem h, Sp.eMany_append]
  simp [Sp.eMany]
theorem eMany_le {α : Type} (f : α → List UInt8) (zs : List α) (k : Nat) : (Sp.eMany f (zs.take k)).length ≤ (Sp.eMany f zs).length := by
  conv => rhs; rw [← List.take_append_drop k zs, Sp.eMany_append]
  simp
theorem eList_length {α : Type} (f : α → List UInt8) (zs : List α) : (Sp.eList f zs).length = (Lib.itoa zs.length).length + 1 + (Sp.eMany f zs).length + 1 := by
  simp [Sp.eList]; omega
theorem cells_snoc (l : List UInt8) (c : UInt8) (z : Int) (hz : z = c.toNat) : Lib.byteCells l ++ [Value.int .u8 z] = Lib.byteCells (l ++ [c]) := by subst hz; simp [Lib.byteCells]
theorem cells_app (a b : List UInt8) : Lib.byteCells a ++ Lib.strCells (bs b) = Lib.byteCells (a ++ b) := by rw [strCells_eq, bs_list, ← Lib.byteCells_append]

set_option maxHeartbeats 1000000 in
theorem writeInts_some (zs : List Int) (hz : ∀ z ∈ zs, Sp.I64 z) (b off cap : Nat) (w : World) (he : Env w) (hb : b < w.heap.size) (hlen : zs.length ≤ 281474976710656)
    (hc : ∀ k, k < zs.length → w.cell? ⟨b, off + k, none⟩ = some (.int .i64 (zs.getD k 0))) (hsz : (Sp.eList Sp.eInt zs).length ≤ 140737488355328) :
    Calls Tryd.prog 46 #[.slice (some ⟨b, off, none⟩) zs.length cap, .func (.func 13) #[] #[]] w fun e w' => e = .returned (.string (bs (Sp.eList Sp.eInt zs))) ∧ Below w.heap.size w w' := by
  rw [eList_length] at hsz
  have HC := Lib.hid hc
  clear hc
  have h0 := Lib.fresh_isBuilder 65 5 w
  go_enter Tryd.func46, Tryd.ntmps46
  go_wp2_with (go_at_call 44; refine (itoa_any _ ⟨by omega, by omega⟩ _ (he.alloc _)).mono ?_; rintro e w1 ⟨rfl, hb1⟩; refine Hid.out ?_)
  refine Lib.hid ?_
  have h1 := builder_old h0 hb1
  have e1 := (he.alloc _).fresh hb1
  have k1 : Below w.heap.size w w1 := ((Below.refl _ _).alloc (Nat.le_refl _) _).trans (hb1.mono (by simp))
  clear hb1
  have hs1 := k1.size
  go_wp2_with (go_at_call 61; refine (str_any _ _ _ _ _ h1 (by rw [bs_size]; simp; omega) hs1).mono ?_; rintro e w2 ⟨rfl, h2, hb2⟩; refine Hid.out ?_)
  refine Lib.hid ?_
  have e2 := e1.below hb2 he.size
  have k2 := k1.trans hb2
  clear hb2 h1 k1 e1 hs1
  have h2' : Lib.IsBuilder 65 5 w.heap.size w.heap.size (Lib.byteCells (Lib.itoa zs.length)) w2 := by simpa [strCells_eq, bs_list] using h2
  clear h2
  have hs2 := k2.size
  go_wp2_with (go_at_call 62; refine (byte_any _ _ _ _ _ h2' (by rw [Lib.byteCells_length]; omega) hs2).mono ?_; rintro e w3 ⟨rfl, h3, hb3⟩; refine Hid.out ?_)
  refine Lib.hid ?_
  have e3 := e2.below hb3 he.size
  have k3 := k2.trans hb3
  rw [cells_snoc _ 91 91 rfl] at h3
  clear hb3 h2' k2 e2 hs2
  go_wp2
  go_loopw [15] (fun i wr => ∃ k : Nat, k ≤ zs.length ∧ i = .int .i64 k ∧ Lib.IsBuilder 65 5 w.heap.size w.heap.size (Lib.byteCells (Lib.itoa zs.length ++ 91 :: Sp.eMany Sp.eInt (zs.take k))) wr ∧ Below w.heap.size w wr ∧ Env wr) (fun i _ => zs.length - (intOf i).toNat)
  case atStart => exact ⟨0, Nat.zero_le _, rfl, by simpa [Sp.eMany] using h3, k3, e3⟩
  case round =>
    obtain ⟨k, hk, rfl, hr, kr, er⟩ := hrel
    clear h3 k3 e3 w1 w2 w3 h0
    have hsr := kr.size
    have hle := eMany_le Sp.eInt zs k
    by_cases hlt : k < zs.length
    · have hg : wr.cell? ⟨b, off + k, none⟩ = some (.int .i64 (zs[k])) := by
        rw [kr.cell (p := ⟨b, off + k, none⟩) hb, HC.out k hlt, List.getD_eq_getElem?_getD, List.getElem?_eq_getElem hlt]; rfl
      have hi := hz zs[k] (List.getElem_mem hlt)
      have HT := Lib.hid (eMany_take Sp.eInt zs k hlt)
      have hle' := eMany_le Sp.eInt zs (k + 1)
      go_wp2_with (go_at_call 13; refine (wInt_any _ hi _ er).mono ?_; rintro e w1 ⟨rfl, hb1⟩; refine Hid.out ?_)
      refine Lib.hid ?_
      have h1 := builder_old hr hb1
      have e1 := er.fresh hb1
      have k1 := kr.trans (hb1.mono hsr)
      clear hb1 hr er kr hg
      have hs1 := k1.size
      go_wp2_with (go_at_call 61; refine (str_any _ _ _ _ _ h1 (by rw [HT.out] at hle'; rw [bs_size, Lib.byteCells_length]; simp at hle' ⊢; omega) hs1).mono ?_; rintro e w2 ⟨rfl, h2, hb2⟩; refine Hid.out ?_)
      refine Lib.hid ?_
      have e2 := e1.below hb2 he.size
      have k2 := k1.trans hb2
      rw [cells_app] at h2
      clear hb2 h1 k1 e1
      go_wp2
      go_roundw
      case rel => exact ⟨k + 1, by omega, by go_num, by rw [HT.out]; simpa using h2, k2, e2⟩
      case measure => simp [intOf]; omega
    · obtain rfl : k = zs.length := by omega
      rw [List.take_length] at hr
      go_wp2_with (go_at_call 62; refine (byte_any _ _ _ _ _ hr (by rw [Lib.byteCells_length]; simp; omega) hsr).mono ?_; rintro e w1 ⟨rfl, h1, hb1⟩; refine Hid.out ?_)
      refine Lib.hid ?_
      have k1 := kr.trans hb1
      have hs1 := k1.size
      rw [cells_snoc _ 93 93 rfl] at h1
      clear hb1 hr kr er
      go_wp2_with (go_at_call 63; refine (Tryd.Builder_String_any _ _ _ _ h1 hs1).mono ?_; rintro e w2 ⟨rfl, hb2⟩; refine Hid.out ?_)
      refine Lib.hid ?_
      go_wp2
      go_ret
      exact ⟨ret_string (by unfold Sp.eList; simp [bs]), k1.trans hb2⟩

set_option maxHeartbeats 1000000 in
theorem writeInts_none (a : Option Addr) (cap : Nat) (w : World) (he : Env w) :
    Calls Tryd.prog 46 #[.slice a 0 cap, .func (.func 13) #[] #[]] w fun e w' => e = .returned (.string (bs (Sp.eList Sp.eInt []))) ∧ Below w.heap.size w w' := by
  have hsz : (Lib.itoa (0 : Int)).length ≤ 21 := Lib.itoa_length_le 0 (by omega) (by omega)
  have h0 := Lib.fresh_isBuilder 65 5 w
  go_enter Tryd.func46, Tryd.ntmps46
  go_wp2_with (go_at_call 44; refine (itoa_any _ ⟨by omega, by omega⟩ _ (he.alloc _)).mono ?_; rintro e w1 ⟨rfl, hb1⟩; refine Hid.out ?_)
  refine Lib.hid ?_
  have h1 := builder_old h0 hb1
  have e1 := (he.alloc _).fresh hb1
  have k1 : Below w.heap.size w w1 := ((Below.refl _ _).alloc (Nat.le_refl _) _).trans (hb1.mono (by simp))
  clear hb1
  have hs1 := k1.size
  go_wp2_with (go_at_call 61; refine (str_any _ _ _ _ _ h1 (by rw [bs_size]; simp; omega) hs1).mono ?_; rintro e w2 ⟨rfl, h2, hb2⟩; refine Hid.out ?_)
  refine Lib.hid ?_
  have e2 := e1.below hb2 he.size
  have k2 := k1.trans hb2
  clear hb2 h1 k1 e1 hs1
  have h2' : Lib.IsBuilder 65 5 w.heap.size w.heap.size (Lib.byteCells (Lib.itoa (0 : Int))) w2 := by simpa [strCells_eq, bs_list] using h2
  clear h2
  have hs2 := k2.size
  go_wp2_with (go_at_call 62; refine (byte_any _ _ _ _ _ h2' (by rw [Lib.byteCells_length]; omega) hs2).mono ?_; rintro e w3 ⟨rfl, h3, hb3⟩; refine Hid.out ?_)
  refine Lib.hid ?_
  have e3 := e2.below hb3 he.size
  have k3 := k2.trans hb3
  rw [cells_snoc _ 91 91 rfl] at h3
  clear hb3 h2' k2 e2 hs2
  go_wp2
  go_loopw [15] (fun i wr => i = .int .i64 0 ∧ Lib.IsBuilder 65 5 w.heap.size w.heap.size (Lib.byteCells (Lib.itoa (0 : Int) ++ [91])) wr ∧ Below w.heap.size w wr) (fun _ _ => 0)
  case atStart => exact ⟨rfl, h3, k3⟩
  case round =>
    obtain ⟨rfl, hr, kr⟩ := hrel
    clear h3 k3 e3 w1 w2 w3 h0
    have hsr := kr.size
    go_wp2_with (go_at_call 62; refine (byte_any _ _ _ _ _ hr (by rw [Lib.byteCells_length]; simp; omega) hsr).mono ?_; rintro e w1 ⟨rfl, h1, hb1⟩; refine Hid.out ?_)
    refine Lib.hid ?_
    have k1 := kr.trans hb1
    have hs1 := k1.size
    rw [cells_snoc _ 93 93 rfl] at h1
    clear hb1 hr kr
    go_wp2_with (go_at_call 63; refine (Tryd.Builder_String_any _ _ _ _ h1 hs1).mono ?_; rintro e w2 ⟨rfl, hb2⟩; refine Hid.out ?_)
    refine Lib.hid ?_
    go_wp2
    go_ret
    exact ⟨ret_string (by unfold Sp.eList; simp [bs, Sp.eMany]), k1.trans hb2⟩

set_option maxHeartbeats 1000000 in
theorem writeTexts_some (zs : List (List UInt8)) (hz : ∀ z ∈ zs, z.length ≤ 281474976710656) (b off cap : Nat) (w : World) (he : Env w) (hb : b < w.heap.size) (hlen : zs.length ≤ 281474976710656)
    (hc : ∀ k, k < zs.length → w.cell? ⟨b, off + k, none⟩ = some (.string (bs (zs.getD k [])))) (hsz : (Sp.eList Sp.eText zs).length ≤ 140737488355328) :
    Calls Tryd.prog 47 #[.slice (some ⟨b, off, none⟩) zs.length cap, .func (.func 15) #[] #[]] w fun e w' => e = .returned (.string (bs (Sp.eList Sp.eText zs))) ∧ Below w.heap.size w w' := by
  rw [eList_length] at hsz
  have HC := Lib.hid hc
  clear hc
  have h0 := Lib.fresh_isBuilder 65 5 w
  go_enter Tryd.func47, Tryd.ntmps47
  go_wp2_with (go_at_call 44; refine (itoa_any _ ⟨by omega, by omega⟩ _ (he.alloc _)).mono ?_; rintro e w1 ⟨rfl, hb1⟩; refine Hid.out ?_)
  refine Lib.hid ?_
  have h1 := builder_old h0 hb1
  have e1 := (he.alloc _).fresh hb1
  have k1 : Below w.heap.size w w1 := ((Below.refl _ _).alloc (Nat.le_refl _) _).trans (hb1.mono (by simp))
  clear hb1
  have hs1 := k1.size
  go_wp2_with (go_at_call 61; refine (str_any _ _ _ _ _ h1 (by rw [bs_size]; simp; omega) hs1).mono ?_; rintro e w2 ⟨rfl, h2, hb2⟩; refine Hid.out ?_)
  refine Lib.hid ?_
  have e2 := e1.below hb2 he.size
  have k2 := k1.trans hb2
  clear hb2 h1 k1 e1 hs1
  have h2' : Lib.IsBuilder 65 5 w.heap.size w.heap.size (Lib.byteCells (Lib.itoa zs.length)) w2 := by simpa [strCells_eq, bs_list] using h2
  clear h2
  have hs2 := k2.size
  go_wp2_with (go_at_call 62; refine (byte_any _ _ _ _ _ h2' (by rw [Lib.byteCells_length]; omega) hs2).mono ?_; rintro e w3 ⟨rfl, h3, hb3⟩; refine Hid.out ?_)
  refine Lib.hid ?_
  have e3 := e2.below hb3 he.size
  have k3 := k2.trans hb3
  rw [cells_snoc _ 91 91 rfl] at h3
  clear hb3 h2' k2 e2 hs2
  go_wp2
  go_loopw [15] (fun i wr => ∃ k : Nat, k ≤ zs.length ∧ i = .int .i64 k ∧ Lib.IsBuilder 65 5 w.heap.size w.heap.size (Lib.byteCells (Lib.itoa zs.length ++ 91 :: Sp.eMany Sp.eText (zs.take k))) wr ∧ Below w.heap.size w wr ∧ Env wr) (fun i _ => zs.length - (intOf i).toNat)
  case atStart => exact ⟨0, Nat.zero_le _, rfl, by simpa [Sp.eMany] using h3, k3, e3⟩
  case round =>
    obtain ⟨k, hk, rfl, hr, kr, er⟩ := hrel
    clear h3 k3 e3 w1 w2 w3 h0
    have hsr := kr.size
    have hle := eMany_le Sp.eText zs k
    by_cases hlt : k < zs.length
    · have hg : wr.cell? ⟨b, off + k, none⟩ = some (.string (bs (zs[k]))) := by
        rw [kr.cell (p := ⟨b, off + k, none⟩) hb, HC.out k hlt, List.getD_eq_getElem?_getD, List.getElem?_eq_getElem hlt]; rfl
      have hi := hz zs[k] (List.getElem_mem hlt)
      have HT := Lib.hid (eMany_take Sp.eText zs k hlt)
      have hle' := eMany_le Sp.eText zs (k + 1)
      go_wp2_with (go_at_call 15; refine (wText_any _ hi _ er).mono ?_; rintro e w1 ⟨rfl, hb1⟩; refine Hid.out ?_)
      refine Lib.hid ?_
      have h1 := builder_old hr hb1
      have e1 := er.fresh hb1
      have k1 := kr.trans (hb1.mono hsr)
      clear hb1 hr er kr hg
      have hs1 := k1.size
      go_wp2_with (go_at_call 61; refine (str_any _ _ _ _ _ h1 (by rw [HT.out] at hle'; rw [bs_size, Lib.byteCells_length]; simp at hle' ⊢; omega) hs1).mono ?_; rintro e w2 ⟨rfl, h2, hb2⟩; refine Hid.out ?_)
      refine Lib.hid ?_
      have e2 := e1.below hb2 he.size
      have k2 := k1.trans hb2
      rw [cells_app] at h2
      clear hb2 h1 k1 e1
      go_wp2
      go_roundw
      case rel => exact ⟨k + 1, by omega, by go_num, by rw [HT.out]; simpa using h2, k2, e2⟩
      case measure => simp [intOf]; omega
    · obtain rfl : k = zs.length := by omega
      rw [List.take_length] at hr
      go_wp2_with (go_at_call 62; refine (byte_any _ _ _ _ _ hr (by rw [Lib.byteCells_length]; simp; omega) hsr).mono ?_; rintro e w1 ⟨rfl, h1, hb1⟩; refine Hid.out ?_)
      refine Lib.hid ?_
      have k1 := kr.trans hb1
      have hs1 := k1.size
      rw [cells_snoc _ 93 93 rfl] at h1
      clear hb1 hr kr er
      go_wp2_with (go_at_call 63; refine (Tryd.Builder_String_any _ _ _ _ h1 hs1).mono ?_; rintro e w2 ⟨rfl, hb2⟩; refine Hid.out ?_)
      refine Lib.hid ?_
      go_wp2
      go_ret
      exact ⟨ret_string (by unfold Sp.eList; simp [bs]), k1.trans hb2⟩

set_option maxHeartbeats 1000000 in
theorem writeTexts_none (a : Option Addr) (cap : Nat) (w : World) (he : Env w) :
    Calls Tryd.prog 47 #[.slice a 0 cap, .func (.func 15) #[] #[]] w fun e w' => e = .returned (.string (bs (Sp.eList Sp.eText []))) ∧ Below w.heap.size w w' := by
  have hsz : (Lib.itoa (0 : Int)).length ≤ 21 := Lib.itoa_length_le 0 (by omega) (by omega)
  have h0 := Lib.fresh_isBuilder 65 5 w
  go_enter Tryd.func47, Tryd.ntmps47
  go_wp2_with (go_at_call 44; refine (itoa_any _ ⟨by omega, by omega⟩ _ (he.alloc _)).mono ?_; rintro e w1 ⟨rfl, hb1⟩; refine Hid.out ?_)
  refine Lib.hid ?_
  have h1 := builder_old h0 hb1
  have e1 := (he.alloc _).fresh hb1
  have k1 : Below w.heap.size w w1 := ((Below.refl _ _).alloc (Nat.le_refl _) _).trans (hb1.mono (by simp))
  clear hb1
  have hs1 := k1.size
  go_wp2_with (go_at_call 61; refine (str_any _ _ _ _ _ h1 (by rw [bs_size]; simp; omega) hs1).mono ?_; rintro e w2 ⟨rfl, h2, hb2⟩; refine Hid.out ?_)
  refine Lib.hid ?_
  have e2 := e1.below hb2 he.size
  have k2 := k1.trans hb2
  clear hb2 h1 k1 e1 hs1
  have h2' : Lib.IsBuilder 65 5 w.heap.size w.heap.size (Lib.byteCells (Lib.itoa (0 : Int))) w2 := by simpa [strCells_eq, bs_list] using h2
  clear h2
  have hs2 := k2.size
  go_wp2_with (go_at_call 62; refine (byte_any _ _ _ _ _ h2' (by rw [Lib.byteCells_length]; omega) hs2).mono ?_; rintro e w3 ⟨rfl, h3, hb3⟩; refine Hid.out ?_)
  refine Lib.hid ?_
  have e3 := e2.below hb3 he.size
  have k3 := k2.trans hb3
  rw [cells_snoc _ 91 91 rfl] at h3
  clear hb3 h2' k2 e2 hs2
  go_wp2
  go_loopw [15] (fun i wr => i = .int .i64 0 ∧ Lib.IsBuilder 65 5 w.heap.size w.heap.size (Lib.byteCells (Lib.itoa (0 : Int) ++ [91])) wr ∧ Below w.heap.size w wr) (fun _ _ => 0)
  case atStart => exact ⟨rfl, h3, k3⟩
  case round =>
    obtain ⟨rfl, hr, kr⟩ := hrel
    clear h3 k3 e3 w1 w2 w3 h0
    have hsr := kr.size
    go_wp2_with (go_at_call 62; refine (byte_any _ _ _ _ _ hr (by rw [Lib.byteCells_length]; simp; omega) hsr).mono ?_; rintro e w1 ⟨rfl, h1, hb1⟩; refine Hid.out ?_)
    refine Lib.hid ?_
    have k1 := kr.trans hb1
    have hs1 := k1.size
    rw [cells_snoc _ 93 93 rfl] at h1
    clear hb1 hr kr
    go_wp2_with (go_at_call 63; refine (Tryd.Builder_String_any _ _ _ _ h1 hs1).mono ?_; rintro e w2 ⟨rfl, hb2⟩; refine Hid.out ?_)
    refine Lib.hid ?_
    go_wp2
    go_ret
    exact ⟨ret_string (by unfold Sp.eList; simp [bs, Sp.eMany]), k1.trans hb2⟩


/-- A slice that reads as a list of strings. -/
def TextsAt (w : World) (v : Value) (ts : List (List UInt8)) : Prop :=
  ∃ a cap, v = .slice a ts.length cap ∧ (ts = [] ∨ ∃ b off, a = some ⟨b, off, none⟩ ∧ b < w.heap.size ∧ ∀ k, k < ts.length → w.cell? ⟨b, off + k, none⟩ = some (.string (bs (ts.getD k []))))

theorem wNums_any (v : Value) (zs : List Int) (w : World) (he : Env w) (hv : IntsAt w v zs) (hz : ∀ z ∈ zs, Sp.I64 z) (hlen : zs.length ≤ 281474976710656) (hsz : (Sp.eList Sp.eInt zs).length ≤ 140737488355328) :
    Calls Tryd.prog 17 #[v] w fun e w' => e = .returned (.string (bs (Sp.eList Sp.eInt zs))) ∧ Below w.heap.size w w' := by
  obtain ⟨a, cap, rfl, hv⟩ := hv
  rcases hv with rfl | ⟨b, off, rfl, hb, hc⟩
  · go_enter Tryd.func17, Tryd.ntmps17
    go_wp2_with (go_at_call 46; refine (writeInts_none _ _ _ he).mono ?_; rintro e w1 ⟨rfl, hb1⟩)
    go_ret
    exact ⟨rfl, hb1⟩
  · have HC := Lib.hid hc
    clear hc
    go_enter Tryd.func17, Tryd.ntmps17
    go_wp2_with (go_at_call 46; refine (writeInts_some _ hz _ _ _ _ he hb hlen HC.out hsz).mono ?_; rintro e w1 ⟨rfl, hb1⟩)
    go_ret
    exact ⟨rfl, hb1⟩

theorem wTexts_any (v : Value) (ts : List (List UInt8)) (w : World) (he : Env w) (hv : TextsAt w v ts) (hz : ∀ z ∈ ts, z.length ≤ 281474976710656) (hlen : ts.length ≤ 281474976710656) (hsz : (Sp.eList Sp.eText ts).length ≤ 140737488355328) :
    Calls Tryd.prog 19 #[v] w fun e w' => e = .returned (.string (bs (Sp.eList Sp.eText ts))) ∧ Below w.heap.size w w' := by
  obtain ⟨a, cap, rfl, hv⟩ := hv
  rcases hv with rfl | ⟨b, off, rfl, hb, hc⟩
  · go_enter Tryd.func19, Tryd.ntmps19
    go_wp2_with (go_at_call 47; refine (writeTexts_none _ _ _ he).mono ?_; rintro e w1 ⟨rfl, hb1⟩)
    go_ret
    exact ⟨rfl, hb1⟩
  · have HC := Lib.hid hc
    clear hc
    go_enter Tryd.func19, Tryd.ntmps19
    go_wp2_with (go_at_call 47; refine (writeTexts_some _ hz _ _ _ _ he hb hlen HC.out hsz).mono ?_; rintro e w1 ⟨rfl, hb1⟩)
    go_ret
    exact ⟨rfl, hb1⟩
end Go.Proofs.YtplejiaddemjhaaDoor
