/- The examples of the document, and the calls where the plain result is known. -/
import Derived.Test.YtkicdfoncopklaaVDo
namespace Go.Proofs.Ytkicdfoncopklaa
open Go.RowKit Go.Maps Go.ChangeMaps Go.MapKept
open Vp
attribute [local go_sem ↓] Go.wp_at_zero Go.wp_at_succ

section
variable {w0 w : World} {os : List Ob} {i b : Nat} {V V' : Vt}
theorem v_lock_eq (h : OMem w0 w os) (hi : os[i]? = some (.vault b V)) {k : Int} {s : ByteArray} {n e : Int} (ho : lock V k s = ((n, e), V')) (hs : s.size ≤ 281474976710656) (hn : V.boxes.length ≤ 100000) :
    Calls Try.prog 18 #[.pointer (some ⟨b, 0, none⟩), .int .i64 k, .string s] w fun r w' => r = .returned (.tuple #[.int .i64 n, .int .i64 e]) ∧ OMem w0 w' (os.set i (.vault b V')) := by
  have := v_lock h hi k s hs hn
  rw [ho] at this
  exact this
theorem v_open_eq (h : OMem w0 w os) (hi : os[i]? = some (.vault b V)) {k j : Int} {s : ByteArray} {e : Int} (ho : opens V k j = (s, e)) (hf : ∀ x ∈ V.boxes, x.2.size ≤ 281474976710656) :
    Calls Try.prog 15 #[.pointer (some ⟨b, 0, none⟩), .int .i64 k, .int .i64 j] w fun r w' => r = .returned (.tuple #[.string s, .int .i64 e]) ∧ OMem w0 w' os := by
  have := v_open h hi k j hf
  rw [ho] at this
  exact this.mono fun r w' ⟨h1, h2⟩ => ⟨h1, h.fresh h2⟩
theorem v_destroy_eq (h : OMem w0 w os) (hi : os[i]? = some (.vault b V)) {k e : Int} (ho : destroy V k = (e, V')) :
    Calls Try.prog 19 #[.pointer (some ⟨b, 0, none⟩), .int .i64 k] w fun r w' => r = .returned (.int .i64 e) ∧ OMem w0 w' (os.set i (.vault b V')) := by
  have := v_destroy h hi k
  rw [ho] at this
  exact this
theorem v_do_eq (h : OMem w0 w os) (hi : os[i]? = some (.vault b V)) {o : VOp} {d : VDone} (ho : act V o = (d, V')) (hf : Fine V 100000) (hs : o.text.size ≤ 281474976710656) :
    Calls Try.prog 11 #[.pointer (some ⟨b, 0, none⟩), .agg #[.int .i64 o.do_, .int .i64 o.key, .int .i64 o.box, .string o.text]] w fun r w' => r = .returned (.agg #[.int .i64 d.n, .string d.text, .int .i64 d.err]) ∧ OMem w0 w' (os.set i (.vault b V')) := by
  have := v_do h hi o hf hs
  rw [ho] at this
  exact this
end
def xA : ByteArray := ⟨#[97]⟩
def xB : ByteArray := ⟨#[98]⟩
def xC : ByteArray := ⟨#[99]⟩
instance : DecidableEq Vt := fun a b => if h : a.good = b.good ∧ a.boxes = b.boxes then .isTrue (by cases a; cases b; simp at h; simp [h]) else .isFalse (by rintro rfl; exact h ⟨rfl, rfl⟩)
def s0 : Vt := ⟨[], []⟩
def s1 : Vt := ⟨[true], []⟩
def s2 : Vt := ⟨[true, true], []⟩
def s3 : Vt := ⟨[true, true], [(1, xA)]⟩
def s4 : Vt := ⟨[true, false], [(1, xA)]⟩
set_option maxHeartbeats 8000000 in
set_option maxRecDepth 100000 in
theorem small_any (w : World) : Calls Try.prog 7 #[] w fun e w' => e = .returned (.bool true) ∧ Below w.heap.size w w' := by
  have L1 := Lib.hid (show lock s2 1 xA = ((0, 0), s3) by decide +kernel)
  have L2 := Lib.hid (show lock s3 2 xB = ((0, 4), s3) by decide +kernel)
  have O1 := Lib.hid (show opens s3 1 0 = (xA, 0) by decide +kernel)
  have O2 := Lib.hid (show opens s3 0 0 = (xE, 13) by decide +kernel)
  have O3 := Lib.hid (show opens s3 1 1 = (xE, 4) by decide +kernel)
  have D1 := Lib.hid (show destroy s3 1 = (0, s4) by decide +kernel)
  have O4 := Lib.hid (show opens s4 1 0 = (xE, 13) by decide +kernel)
  have L3 := Lib.hid (show lock s4 1 xC = ((0, 13), s4) by decide +kernel)
  have D2 := Lib.hid (show destroy s4 1 = (5, s4) by decide +kernel)
  have T3 := Lib.hid (show ∀ x ∈ s3.boxes, x.2.size ≤ 281474976710656 by decide +kernel)
  have T4 := Lib.hid (show ∀ x ∈ s4.boxes, x.2.size ≤ 281474976710656 by decide +kernel)
  have hxa : xA.toList = [97] := by rw [Lib.toList_data]; rfl
  go_enter Try.func7, Try.ntmps7
  go_wp2_with (go_at_call 9; refine (v_new (OMem.start _)).mono ?_; rintro e w1 ⟨b, rfl, m1⟩; refine Hid.out ?_)
  refine Lib.hid ?_
  have M1 := Lib.hid (show OMem w w1 [.vault b s0] from m1)
  clear m1
  go_wp2_with (go_at_call 17; refine (v_key M1.out (i := 0) rfl (by decide)).mono ?_; rintro e w2 ⟨rfl, m2⟩; refine Hid.out ?_)
  refine Lib.hid ?_
  have M2 := Lib.hid (show OMem w w2 [.vault b s1] from m2)
  clear m2 M1
  go_wp2_with (go_at_call 17; refine (v_key M2.out (i := 0) rfl (by decide)).mono ?_; rintro e w3 ⟨rfl, m3⟩; refine Hid.out ?_)
  refine Lib.hid ?_
  have M3 := Lib.hid (show OMem w w3 [.vault b s2] from m3)
  clear m3 M2
  go_wp2_with (go_at_call 18; refine (v_lock_eq M3.out (i := 0) rfl L1.out (by decide) (by decide)).mono ?_; rintro e w4 ⟨rfl, m4⟩; refine Hid.out ?_)
  refine Lib.hid ?_
  have M4 := Lib.hid (show OMem w w4 [.vault b s3] from m4)
  clear m4 M3
  go_wp2_with (go_at_call 18; refine (v_lock_eq M4.out (i := 0) rfl L2.out (by decide) (by decide)).mono ?_; rintro e w5 ⟨rfl, m5⟩; refine Hid.out ?_)
  refine Lib.hid ?_
  have M5 := Lib.hid (show OMem w w5 [.vault b s3] from m5)
  clear m5 M4
  go_wp2_with (go_at_call 15; refine (v_open_eq M5.out (i := 0) rfl O1.out T3.out).mono ?_; rintro e w6 ⟨rfl, m6⟩; refine Hid.out ?_)
  refine Lib.hid ?_
  have M6 := Lib.hid m6
  clear m6 M5
  go_wp2_with (go_at_call 15; refine (v_open_eq M6.out (i := 0) rfl O2.out T3.out).mono ?_; rintro e w7 ⟨rfl, m7⟩; refine Hid.out ?_)
  refine Lib.hid ?_
  have M7 := Lib.hid m7
  clear m7 M6
  go_wp2_with (go_at_call 15; refine (v_open_eq M7.out (i := 0) rfl O3.out T3.out).mono ?_; rintro e w8 ⟨rfl, m8⟩; refine Hid.out ?_)
  refine Lib.hid ?_
  have M8 := Lib.hid m8
  clear m8 M7
  go_wp2_with (go_at_call 19; refine (v_destroy_eq M8.out (i := 0) rfl D1.out).mono ?_; rintro e w9 ⟨rfl, m9⟩; refine Hid.out ?_)
  refine Lib.hid ?_
  have M9 := Lib.hid (show OMem w w9 [.vault b s4] from m9)
  clear m9 M8
  go_wp2_with (go_at_call 15; refine (v_open_eq M9.out (i := 0) rfl O4.out T4.out).mono ?_; rintro e w10 ⟨rfl, m10⟩; refine Hid.out ?_)
  refine Lib.hid ?_
  have M10 := Lib.hid m10
  clear m10 M9
  go_wp2_with (go_at_call 18; refine (v_lock_eq M10.out (i := 0) rfl L3.out (by decide) (by decide)).mono ?_; rintro e w11 ⟨rfl, m11⟩; refine Hid.out ?_)
  refine Lib.hid ?_
  have M11 := Lib.hid (show OMem w w11 [.vault b s4] from m11)
  clear m11 M10
  go_wp2_with (go_at_call 19; refine (v_destroy_eq M11.out (i := 0) rfl D2.out).mono ?_; rintro e w12 ⟨rfl, m12⟩; refine Hid.out ?_)
  refine Lib.hid ?_
  have M12 := Lib.hid (show OMem w w12 [.vault b s4] from m12)
  clear m12 M11
  go_wp2_with (go_at_call 13; refine (v_keys M12.out (i := 0) rfl).mono ?_; rintro e w13 ⟨rfl, rfl⟩; refine Hid.out ?_)
  refine Lib.hid ?_
  go_wp2_with (go_at_call 14; refine (v_boxes M12.out (i := 0) rfl).mono ?_; rintro e w13 ⟨rfl, rfl⟩; refine Hid.out ?_)
  refine Lib.hid ?_
  go_wp2
  go_ret
  exact ⟨rfl, M12.out.below⟩
end Go.Proofs.Ytkicdfoncopklaa
