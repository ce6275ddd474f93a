/- small: the examples of the documentation, walked. -/
import Derived.Test.YtadnmoaemnajgaaMem
namespace Go.Proofs.Ytadnmoaemnajgaa
open Go.RowKit Go.Maps Go.ChangeMaps Go.MapKept
open Dp
attribute [local go_sem ↓] Go.wp_at_zero Go.wp_at_succ

def f4 : Dk := (f3.write 16 0 []).2
theorem ex0 : (e2.write 0 1 [88, 89]).1 = 0 := by decide
def f5 : Dk := (f4.write 1 16777216 [97]).2
theorem i64_nat {x : Int} (h : decide (0 ≤ x ∧ x ≤ 9223372036854775807) = true) : I64 x := by
  have := of_decide_eq_true h; exact ⟨by omega, this.2⟩
theorem src_alloc (w : World) (ks : List Int) (e : TypeId) : SrcIs (w.alloc (.cells (intVs ks).toArray e)) 1 (.slice (some ⟨w.heap.size, 0, none⟩) ks.length ks.length) ks.length (intVs ks) := by
  refine ⟨by rw [intVs_length, Nat.mul_one], .inr ⟨⟨w.heap.size, 0, none⟩, ks.length, rfl, fun j u hj => ?_, oneCell_ints ks⟩⟩
  rw [Lib.add_plain, Nat.zero_add, alloc_new_cell]
  simpa using hj
theorem at_alloc {w : World} {n c : Nat} : ∀ ad n' c', Value.slice (some ⟨w.heap.size, 0, none⟩) n c = .slice (some ad) n' c' → w.heap.size ≤ ad.block := fun ad n' c' h => by cases h; exact Nat.le_refl _
section
variable {w0 w : World} {ds : List (Nat × Dk)} {i b : Nat} {D D' : Dk}
theorem mem_write1 (h : Mem w0 w ds) (hi : ds[i]? = some (b, D)) (f a : Int) (s : List UInt8) (hf : I64 f) (ha : I64 a) (hs : s.length ≤ 140737488355327) {r : Int} (hr : D.write f a s = (r, D')) :
    Calls Try.prog 29 #[.pointer (some ⟨b, 0, none⟩), .int .i64 f, .int .i64 a, .string (bs s)] w (MPost w0 ds i b (.int .i64 r) D') := by
  have := mem_write h hi f a s hf ha hs
  rwa [hr] at this
theorem mem_sync1 (h : Mem w0 w ds) (hi : ds[i]? = some (b, D)) (f : Int) (hf : I64 f) {r : Int} (hr : D.sync f = (r, D')) :
    Calls Try.prog 19 #[.pointer (some ⟨b, 0, none⟩), .int .i64 f] w (MPost w0 ds i b (.int .i64 r) D') := by
  have := mem_sync h hi f hf
  rwa [hr] at this
theorem mem_down1 (h : Mem w0 w ds) (hi : ds[i]? = some (b, D)) {r : Bool} (hr : D.down = r) : Calls Try.prog 14 #[.pointer (some ⟨b, 0, none⟩)] w fun e w' => e = .returned (.bool r) ∧ w = w' := by
  have := mem_down h hi
  rwa [hr] at this
theorem mem_size1 (h : Mem w0 w ds) (hi : ds[i]? = some (b, D)) (f : Int) (hf : I64 f) {r : Nat} (hr : D.size f = r) : Calls Try.prog 16 #[.pointer (some ⟨b, 0, none⟩), .int .i64 f] w fun e w' => e = .returned (.int .i64 (r : Int)) ∧ w = w' := by
  have := mem_size h hi f hf
  rwa [hr] at this
theorem mem_read1 (h : Mem w0 w ds) (hi : ds[i]? = some (b, D)) (f a n : Int) (hf : I64 f) (ha : I64 a) (hn : I64 n) {s : List UInt8} {r : Int} (hr : D.read f a n = (s, r)) (z : ByteArray) (hz : bs s = z) :
    Calls Try.prog 20 #[.pointer (some ⟨b, 0, none⟩), .int .i64 f, .int .i64 a, .int .i64 n] w fun e w' => e = .returned (.tuple #[.string z, .int .i64 r]) ∧ Mem w0 w' ds := by
  have := mem_read h hi f a n hf ha hn
  rw [hr] at this
  rwa [← hz]
end

set_option maxHeartbeats 4000000 in
set_option maxRecDepth 100000 in
theorem small_any (w : World) : Calls Try.prog 8 #[] w fun e w' => e = .returned (.bool true) ∧ Below w.heap.size w w' := by
  go_enter Try.func8, Try.ntmps8
  go_wp2_with (go_at_call 10; refine (mem_new (Mem.start w)).mono ?_; rintro e w1 ⟨b, rfl, m⟩; refine Hid.out ?_)
  refine Lib.hid ?_
  have M1 := Lib.hid (show Mem w w1 [(b, e0)] from m)
  clear m
  go_wp2_with (go_at_call 29; refine (mem_write1 (i := 0) M1.out rfl 0 0 [97, 98, 99] I64.zero I64.zero (by decide) (Prod.ext ex1.1 rfl)).mono ?_; rintro e w2 ⟨rfl, m⟩; refine Hid.out ?_)
  refine Lib.hid ?_
  have M2 := Lib.hid (show Mem w w2 [(b, e1)] from m)
  clear m M1
  go_wp2_with (go_at_call 19; refine (mem_sync1 (i := 0) M2.out rfl 0 I64.zero (Prod.ext ex1.2.1 rfl)).mono ?_; rintro e w3 ⟨rfl, m⟩; refine Hid.out ?_)
  refine Lib.hid ?_
  have M3 := Lib.hid (show Mem w w3 [(b, e2)] from m)
  clear m M2
  go_wp2_with (go_at_call 29; refine (mem_write1 (i := 0) M3.out rfl 0 1 [88, 89] I64.zero (i64_nat (by decide)) (by decide) (Prod.ext ex0 rfl)).mono ?_; rintro e w4 ⟨rfl, m⟩; refine Hid.out ?_)
  refine Lib.hid ?_
  have M4 := Lib.hid (show Mem w w4 [(b, e3)] from m)
  clear m M3
  go_wp2_with (go_at_call 18; refine (mem_copy (i := 0) M4.out rfl (by decide)).mono ?_; rintro e w5 ⟨c, rfl, m⟩; refine Hid.out ?_)
  refine Lib.hid ?_
  have M5 := Lib.hid (show Mem w w5 [(b, e3), (c, e3)] from m)
  clear m M4
  go_wp2_with (go_at_call 25; refine (mem_crash_new (i := 0) M5.out (below_alloc _ _) rfl _ [1] (src_alloc _ [1] _) at_alloc (by decide)).mono ?_; rintro e w6 ⟨rfl, m⟩; refine Hid.out ?_)
  refine Lib.hid ?_
  have M6 := Lib.hid (show Mem w w6 [(b, (e3.crash [1])), (c, e3)] from m)
  clear m M5
  go_wp2_with (go_at_call 14; refine (mem_down1 (i := 0) M6.out rfl ex1.2.2.1).mono ?_; rintro e w106 ⟨rfl, rfl⟩; refine Hid.out ?_)
  refine Lib.hid ?_
  go_wp2_with (go_at_call 20; refine (mem_read1 (i := 0) M6.out rfl 0 0 9 I64.zero I64.zero (i64_nat (by decide)) ex1.2.2.2 ⟨#[]⟩ rfl).mono ?_; rintro e w7 ⟨rfl, m⟩; refine Hid.out ?_)
  refine Lib.hid ?_
  have M7 := Lib.hid (show Mem w w7 [(b, (e3.crash [1])), (c, e3)] from m)
  clear m M6
  go_wp2_with (go_at_call 26; refine (mem_start (i := 0) M7.out rfl  ).mono ?_; rintro e w8 ⟨rfl, m⟩; refine Hid.out ?_)
  refine Lib.hid ?_
  have M8 := Lib.hid (show Mem w w8 [(b, e4), (c, e3)] from m)
  clear m M7
  go_wp2_with (go_at_call 20; refine (mem_read1 (i := 0) M8.out rfl 0 0 9 I64.zero I64.zero (i64_nat (by decide)) ex2.1 ⟨#[97, 88, 89]⟩ rfl).mono ?_; rintro e w9 ⟨rfl, m⟩; refine Hid.out ?_)
  refine Lib.hid ?_
  have M9 := Lib.hid (show Mem w w9 [(b, e4), (c, e3)] from m)
  clear m M8
  go_wp2_with (go_at_call 25; refine (mem_crash_new (i := 1) M9.out (below_alloc _ _) rfl _ [0] (src_alloc _ [0] _) at_alloc (by decide)).mono ?_; rintro e w10 ⟨rfl, m⟩; refine Hid.out ?_)
  refine Lib.hid ?_
  have M10 := Lib.hid (show Mem w w10 [(b, e4), (c, (e3.crash [0]))] from m)
  clear m M9
  go_wp2_with (go_at_call 26; refine (mem_start (i := 1) M10.out rfl  ).mono ?_; rintro e w11 ⟨rfl, m⟩; refine Hid.out ?_)
  refine Lib.hid ?_
  have M11 := Lib.hid (show Mem w w11 [(b, e4), (c, f1)] from m)
  clear m M10
  go_wp2_with (go_at_call 20; refine (mem_read1 (i := 1) M11.out rfl 0 1 9 I64.zero (i64_nat (by decide)) (i64_nat (by decide)) ex2.2.1 ⟨#[98, 99]⟩ rfl).mono ?_; rintro e w12 ⟨rfl, m⟩; refine Hid.out ?_)
  refine Lib.hid ?_
  have M12 := Lib.hid (show Mem w w12 [(b, e4), (c, f1)] from m)
  clear m M11
  go_wp2_with (go_at_call 29; refine (mem_write1 (i := 1) M12.out rfl 1 62 [97, 98, 99, 100] (i64_nat (by decide)) (i64_nat (by decide)) (by decide) (Prod.ext ex2.2.2 rfl)).mono ?_; rintro e w13 ⟨rfl, m⟩; refine Hid.out ?_)
  refine Lib.hid ?_
  have M13 := Lib.hid (show Mem w w13 [(b, e4), (c, f2)] from m)
  clear m M12
  go_wp2_with (go_at_call 25; refine (mem_crash_new (i := 1) M13.out (below_alloc _ _) rfl _ [0, 1] (src_alloc _ [0, 1] _) at_alloc (by decide)).mono ?_; rintro e w14 ⟨rfl, m⟩; refine Hid.out ?_)
  refine Lib.hid ?_
  have M14 := Lib.hid (show Mem w w14 [(b, e4), (c, (f2.crash [0, 1]))] from m)
  clear m M13
  go_wp2_with (go_at_call 26; refine (mem_start (i := 1) M14.out rfl  ).mono ?_; rintro e w15 ⟨rfl, m⟩; refine Hid.out ?_)
  refine Lib.hid ?_
  have M15 := Lib.hid (show Mem w w15 [(b, e4), (c, f3)] from m)
  clear m M14
  go_wp2_with (go_at_call 20; refine (mem_read1 (i := 1) M15.out rfl 1 60 100 (i64_nat (by decide)) (i64_nat (by decide)) (i64_nat (by decide)) ex3.1 ⟨#[0, 0, 0, 0, 99, 100]⟩ rfl).mono ?_; rintro e w16 ⟨rfl, m⟩; refine Hid.out ?_)
  refine Lib.hid ?_
  have M16 := Lib.hid (show Mem w w16 [(b, e4), (c, f3)] from m)
  clear m M15
  go_wp2_with (go_at_call 16; refine (mem_size1 (i := 1) M16.out rfl 1 (i64_nat (by decide)) ex3.2.1).mono ?_; rintro e w116 ⟨rfl, rfl⟩; refine Hid.out ?_)
  refine Lib.hid ?_
  go_wp2_with (go_at_call 29; refine (mem_write1 (i := 1) M16.out rfl 16 0 [] (i64_nat (by decide)) I64.zero (by decide) (Prod.ext ex3.2.2.1 rfl)).mono ?_; rintro e w17 ⟨rfl, m⟩; refine Hid.out ?_)
  refine Lib.hid ?_
  have M17 := Lib.hid (show Mem w w17 [(b, e4), (c, f4)] from m)
  clear m M16
  go_wp2_with (go_at_call 29; refine (mem_write1 (i := 1) M17.out rfl 1 16777216 [97] (i64_nat (by decide)) (i64_nat (by decide)) (by decide) (Prod.ext ex3.2.2.2 rfl)).mono ?_; rintro e w18 ⟨rfl, m⟩; refine Hid.out ?_)
  refine Lib.hid ?_
  have M18 := Lib.hid (show Mem w w18 [(b, e4), (c, f5)] from m)
  clear m M17
  go_wp2
  go_ret
  exact ⟨rfl, M18.out.below⟩
end Go.Proofs.Ytadnmoaemnajgaa
