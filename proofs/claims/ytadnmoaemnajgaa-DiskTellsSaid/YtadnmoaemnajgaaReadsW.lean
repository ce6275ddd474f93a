/- DiskReads. -/
import Derived.Test.YtadnmoaemnajgaaPlayed
namespace Go.Proofs.Ytadnmoaemnajgaa
open Go.RowKit Go.Maps Go.ChangeMaps Go.MapKept
open Dp
attribute [local go_sem ↓] Go.wp_at_zero Go.wp_at_succ

theorem bs_extract (l : List UInt8) (a b : Nat) : (bs l).extract a b = bs ((l.drop a).take (b - a)) := Lib.extract_eq _ a b
theorem bs_toList (l : List UInt8) : (bs l).toList = l := by simp [bs, ByteArray.toList_eq]
theorem str_eq {l m : List UInt8} (h : l = m) : (!((bs l).toList == (bs m).toList)) = false := by subst h; simp
theorem Mem.good {w0 w : World} {ds : List (Nat × Dk)} (h : Mem w0 w ds) {i b : Nat} {D : Dk} (hi : ds[i]? = some (b, D)) : Good D ∧ D.Ok := by
  obtain ⟨lab, h⟩ := h
  have g := h.at_ i _ hi
  obtain ⟨⟨L, h1⟩, h2⟩ := g
  exact ⟨h2, h1.ok⟩

/-- few, and what the statements do with it. -/
theorem few_at {w0 : World} {a : Option Addr} {xs : List Act1} (ha : Args w0 a xs) (hl : xs.length ≤ 9223372036854775807) (cap : Nat) {w : World} (hb : Below w0.heap.size w0 w) {r : Bool} (hr : fewB xs = r) :
    Calls Try.prog 9 #[.slice a xs.length cap] w fun e w' => e = .returned (.bool r) ∧ w = w' := by
  subst hr
  exact few_any a cap xs w hl (ha.at_.keep hb)

section
variable {w : World} {a : Option Addr} {xs : List Act1}
set_option maxHeartbeats 1000000 in
set_option maxRecDepth 100000 in
theorem reads_out (cap : Nat) (f at_ size : Int) (s : List UInt8) (ha : Args w a xs) (hl : xs.length ≤ 9223372036854775807) (hat : I64 at_) (hsz : I64 size)
    (hb : fewB xs = false ∨ 300 < s.length ∨ at_ < 0 ∨ 3000 < at_ ∨ size < 0) :
    Calls Try.prog 7 #[.slice a xs.length cap, .int .i64 f, .int .i64 at_, .string (bs s), .int .i64 size] w fun e w' => e = .returned (.bool true) ∧ Below w.heap.size w w' := by
  have HA := Lib.hid ha
  have hz := bs_size s
  have a1 := hat.1
  have a2 := hat.2
  have s1 := hsz.1
  have s2 := hsz.2
  obtain ⟨r, hr⟩ : ∃ r, fewB xs = r := ⟨_, rfl⟩
  rw [hr] at hb
  have HR := Lib.hid hr
  clear ha hat hsz hr
  have hb : r = false ∨ (r = true ∧ 300 < (bs s).size) ∨ (r = true ∧ (bs s).size ≤ 300 ∧ at_ < 0) ∨ (r = true ∧ (bs s).size ≤ 300 ∧ 0 ≤ at_ ∧ 3000 < at_) ∨ (r = true ∧ (bs s).size ≤ 300 ∧ 0 ≤ at_ ∧ at_ ≤ 3000 ∧ size < 0) := by
    cases r with
    | false => exact .inl rfl
    | true =>
      rcases hb with h | h
      · cases h
      · by_cases h3 : 300 < (bs s).size
        · exact .inr (.inl ⟨rfl, h3⟩)
        · by_cases h4 : at_ < 0
          · exact .inr (.inr (.inl ⟨rfl, by omega, h4⟩))
          · by_cases h5 : 3000 < at_
            · exact .inr (.inr (.inr (.inl ⟨rfl, by omega, by omega, h5⟩)))
            · exact .inr (.inr (.inr (.inr ⟨rfl, by omega, by omega, by omega, by omega⟩)))
  rcases hb with h | ⟨h, h3⟩ | ⟨h, h3, h4⟩ | ⟨h, h3, h4, h5⟩ | ⟨h, h3, h4, h5, h6⟩ <;> subst h
  all_goals
    go_enter Try.func7, Try.ntmps7
    go_wp2_with (go_at_call 8; refine (small_any _).mono ?_; rintro e w1 ⟨rfl, b1⟩; refine Hid.out ?_)
    refine Lib.hid ?_
    have B1 := Lib.hid b1
    clear b1
    go_wp2_with (go_at_call 9; refine (few_at HA.out hl cap B1.out HR.out).mono ?_; rintro e w2 ⟨rfl, rfl⟩)
    go_ret
    exact ⟨rfl, B1.out⟩

set_option maxHeartbeats 1000000 in
set_option maxRecDepth 100000 in
theorem reads_down (cap : Nat) (f at_ size : Int) (s : List UInt8) (ha : Args w a xs) (hl : xs.length ≤ 9223372036854775807) (hf : I64 f) (hat : I64 at_) (hsz : I64 size)
    (hfew : fewB xs = true) (h3 : s.length ≤ 300) (h4 : 0 ≤ at_) (h5 : at_ ≤ 3000) (h6 : 0 ≤ size) (hb : (play new xs).down = true ∨ f < 0 ∨ 15 < f) :
    Calls Try.prog 7 #[.slice a xs.length cap, .int .i64 f, .int .i64 at_, .string (bs s), .int .i64 size] w fun e w' => e = .returned (.bool true) ∧ Below w.heap.size w w' := by
  have HA := Lib.hid ha
  have hz := bs_size s
  have f1 := hf.1
  have f2 := hf.2
  have s2 := hsz.2
  have HR := Lib.hid hfew
  have hpl := fun (w1 : World) (b1 : Below w.heap.size w w1) => played_any a cap xs w1 ((Mem.start w).fresh b1) ha (fewB_true hfew)
  obtain ⟨D, hD⟩ : ∃ D, play new xs = D := ⟨_, rfl⟩
  rw [hD] at hpl hb
  have HP := Lib.hid hpl
  have hwr : ∀ s : List UInt8, ((D.arm 0 []).write f at_ s).1 ≠ 0 := write_refused (D := D.arm 0 []) rfl (by rcases hb with h | h; exact .inl h; exact .inr (isFile_not h)) at_
  obtain ⟨r, hr⟩ : ∃ r, ((D.arm 0 []).write f at_ s).1 = r := ⟨_, rfl⟩
  have hr0 : (r == 0) = false := by have := hwr s; rw [hr] at this; simpa using this
  have HWR := Lib.hid hr
  have HF := Lib.hid hf
  have HT := Lib.hid hat
  have hdn : ∀ x, x = D.down → (D.arm 0 []).down = x := fun x hx => hx.symm
  obtain ⟨dn, hdn'⟩ : ∃ dn, D.down = dn := ⟨_, rfl⟩
  have HDN := Lib.hid (hdn dn hdn'.symm)
  rw [hdn'] at hb
  clear ha hat hsz hfew hpl hwr hr hf hdn hdn' hD
  have hb : dn = true ∨ (dn = false ∧ f < 0) ∨ (dn = false ∧ 0 ≤ f ∧ 15 < f) := by
    cases dn with
    | true => exact .inl rfl
    | false =>
      rcases hb with h | h | h
      · cases h
      · exact .inr (.inl ⟨rfl, h⟩)
      · exact .inr (.inr ⟨rfl, by omega, h⟩)
  rcases hb with h | ⟨h, h7⟩ | ⟨h, h7, h8⟩ <;> subst h
  all_goals
    go_enter Try.func7, Try.ntmps7
    go_wp2_with (go_at_call 8; refine (small_any _).mono ?_; rintro e w1 ⟨rfl, b1⟩; refine Hid.out ?_)
    refine Lib.hid ?_
    have B1 := Lib.hid b1
    clear b1
    go_wp2_with (go_at_call 9; refine (few_at HA.out hl cap B1.out HR.out).mono ?_; rintro e w2 ⟨rfl, rfl⟩; refine Hid.out ?_)
    refine Lib.hid ?_
    go_wp2_with (go_at_call 22; refine (HP.out _ B1.out).mono ?_; rintro e w3 ⟨b, rfl, m⟩; refine Hid.out ?_)
    refine Lib.hid ?_
    have M3 := Lib.hid (show Mem w w3 [(b, D)] from m)
    have HAR := Lib.hid (mem_arm (i := 0) M3.out rfl 0 I64.zero _ [] (Nums.nil _ _) (by decide))
    clear m B1
    go_wp2_with (go_at_call 27; refine HAR.out.mono ?_; rintro e w4 ⟨rfl, m⟩; refine Hid.out ?_)
    refine Lib.hid ?_
    have M4 := Lib.hid (show Mem w w4 [(b, D.arm 0 [])] from m)
    have HDW := Lib.hid (mem_down1 (i := 0) M4.out rfl HDN.out)
    have HW := Lib.hid (mem_write1 (i := 0) M4.out rfl f at_ s HF.out HT.out (by omega) (Prod.ext HWR.out rfl))
    clear m M3 HAR
    go_wp2_with (go_at_call 14; refine HDW.out.mono ?_; rintro e w5 ⟨rfl, rfl⟩; refine Hid.out ?_)
    refine Lib.hid ?_
    go_wp2_with (go_at_call 29; refine HW.out.mono ?_; rintro e w6 ⟨rfl, m⟩; refine Hid.out ?_)
    refine Lib.hid ?_
    have M6 := Lib.hid m
    clear m
    go_wp2
    go_ret
    exact ⟨ret_bool (by rw [bne, hr0]; rfl), M6.out.below⟩
end
end Go.Proofs.Ytadnmoaemnajgaa
