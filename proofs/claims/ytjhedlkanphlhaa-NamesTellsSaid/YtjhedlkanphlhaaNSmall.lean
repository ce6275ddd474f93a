/- The examples of the document. -/
import Derived.Test.YtjhedlkanphlhaaNAux
namespace Go.Proofs.Ytjhedlkanphlhaa
open Go.RowKit Go.Maps Go.ChangeMaps Go.MapKept
open Np
attribute [local go_sem ↓] Go.wp_at_zero Go.wp_at_succ

section
variable {w0 w : World} {os : List Ob} {i b : Nat} {T : List ByteArray}
/-- Of, where the plain result is known. -/
theorem n_of_eq (h : OMem w0 w os) (hi : os[i]? = some (.names b T)) {s : ByteArray} {r : Int} {T' : List ByteArray} (ho : of T s = (r, T')) (hn : T.length ≤ 100000) :
    Calls Try.prog 14 #[.pointer (some ⟨b, 0, none⟩), .string s] w fun e w' => e = .returned (.int .i64 r) ∧ OMem w0 w' (os.set i (.names b T')) := by
  have := n_of h hi s hn
  unfold NPost at this
  rw [ho] at this
  exact this
theorem n_text_eq (h : OMem w0 w os) (hi : os[i]? = some (.names b T)) {n : Int} {s : ByteArray} {x : Bool} (ho : text T n = (s, x)) (hn : I64 n) (ht : AllText T) :
    Calls Try.prog 16 #[.pointer (some ⟨b, 0, none⟩), .int .i64 n] w fun e w' => e = .returned (.tuple #[.string s, .bool x]) ∧ OMem w0 w' os := by
  have := n_text h hi n hn ht
  rw [ho] at this
  exact this.mono fun e w' ⟨h1, h2⟩ => ⟨h1, h.fresh h2⟩
theorem texts_cells {g cap : Nat} {cur : Array Value} {e : TypeId} {fz : Nat × Nat} {l : List ByteArray} (h : w.heap[g]? = some (.cells cur e fz)) (hc : cur.toList = strVs l) : TextsAt w (.slice (some ⟨g, 0, none⟩) l.length cap) l := by
  refine ⟨_, cap, by rw [strVs_length], fun k u hk => ⟨g, 0, rfl, ?_⟩⟩
  rw [Lib.cell_of_heap h, Nat.zero_add, ← Array.getElem?_toList, hc]
  exact hk
theorem n_open_no (h : OMem w0 w os) {v : Value} {l : List ByteArray} (hv : TextsAt w v l) (hn : l.length ≤ 100000) {r : Int} (ho : opened l = (r, none)) : Calls Try.prog 9 #[v] w fun e w' => e = .returned (.tuple #[.pointer none, .int .i64 r]) ∧ OMem w0 w' os := by
  refine (n_open h v l hv hn).mono fun e w' hp => ?_
  rcases hp with ⟨_, h1, h2⟩ | ⟨h1, _⟩
  · rw [ho] at h1; exact ⟨h1, h2⟩
  · rw [ho] at h1; cases h1
theorem n_open_yes (h : OMem w0 w os) {v : Value} {l : List ByteArray} (hv : TextsAt w v l) (hn : l.length ≤ 100000) (ho : opened l = (0, some l)) : Calls Try.prog 9 #[v] w fun e w' => ∃ b, e = .returned (.tuple #[.pointer (some ⟨b, 0, none⟩), .int .i64 0]) ∧ OMem w0 w' (os ++ [.names b l]) := by
  refine (n_open h v l hv hn).mono fun e w' hp => ?_
  rcases hp with ⟨h1, _⟩ | ⟨_, b, h1, h2⟩
  · rw [ho] at h1; cases h1
  · rw [ho] at h1; exact ⟨b, h1, h2⟩
def xA : ByteArray := ⟨#[97]⟩
def xB : ByteArray := ⟨#[98]⟩
def xE : ByteArray := ⟨#[]⟩
def xX : ByteArray := ⟨#[120]⟩
def xY : ByteArray := ⟨#[121]⟩
theorem of_long (T : List ByteArray) : of T (long 65537) = (-1, T) := of_refused (by rw [long_size]; decide)
set_option maxHeartbeats 4000000 in
set_option maxRecDepth 100000 in
theorem small_any (w : World) : Calls Try.prog 7 #[] w fun e w' => e = .returned (.bool true) ∧ Below w.heap.size w w' := by
  have o1 : of [] xA = (0, [xA]) := by decide +kernel
  have o2 : of [xA] xB = (1, [xA, xB]) := by decide +kernel
  have o3 : of [xA, xB] xA = (0, [xA, xB]) := by decide +kernel
  have o4 : of [xA, xB] xE = (2, [xA, xB, xE]) := by decide +kernel
  have t1 : text [xA, xB, xE] 1 = (xB, true) := by decide +kernel
  have t2 : text [xA, xB, xE] 3 = (xE, false) := by decide +kernel
  have t3 : text [xA, xB, xE] (-1) = (xE, false) := by decide +kernel
  have ht : AllText [xA, xB, xE] := by intro s hs; simp at hs; rcases hs with rfl | rfl | rfl <;> decide
  have q1 : opened [xX, xY, xX] = (5, none) := by decide +kernel
  have hxb : xB.toList = [98] := by rw [Lib.toList_data]; rfl
  have O1 := Lib.hid o1
  have O2 := Lib.hid o2
  have O3 := Lib.hid o3
  have O4 := Lib.hid o4
  have T1 := Lib.hid t1
  have T2 := Lib.hid t2
  have T3 := Lib.hid t3
  have HT := Lib.hid ht
  have Q1 := Lib.hid q1
  clear o1 o2 o3 o4 t1 t2 t3 ht q1
  go_enter Try.func7, Try.ntmps7
  go_wp2_with (go_at_call 12; refine (n_new (OMem.start _)).mono ?_; rintro e w1 ⟨b, rfl, m1⟩; refine Hid.out ?_)
  refine Lib.hid ?_
  have M1 := Lib.hid (show OMem w w1 [.names b []] from m1)
  clear m1
  go_wp2_with (go_at_call 14; refine (n_of_eq M1.out (i := 0) rfl O1.out (by decide)).mono ?_; rintro e w2 ⟨rfl, m2⟩; refine Hid.out ?_)
  refine Lib.hid ?_
  have M2 := Lib.hid (show OMem w w2 [.names b [xA]] from m2)
  clear m2 M1
  go_wp2_with (go_at_call 14; refine (n_of_eq M2.out (i := 0) rfl O2.out (by decide)).mono ?_; rintro e w3 ⟨rfl, m3⟩; refine Hid.out ?_)
  refine Lib.hid ?_
  have M3 := Lib.hid (show OMem w w3 [.names b [xA, xB]] from m3)
  clear m3 M2
  go_wp2_with (go_at_call 14; refine (n_of_eq M3.out (i := 0) rfl O3.out (by decide)).mono ?_; rintro e w4 ⟨rfl, m4⟩; refine Hid.out ?_)
  refine Lib.hid ?_
  have M4 := Lib.hid (show OMem w w4 [.names b [xA, xB]] from m4)
  clear m4 M3
  go_wp2_with (go_at_call 14; refine (n_of_eq M4.out (i := 0) rfl O4.out (by decide)).mono ?_; rintro e w5 ⟨rfl, m5⟩; refine Hid.out ?_)
  refine Lib.hid ?_
  have M5 := Lib.hid (show OMem w w5 [.names b [xA, xB, xE]] from m5)
  clear m5 M4
  go_wp2_with (go_at_call 16; refine (n_text_eq M5.out (i := 0) rfl T1.out ⟨by decide, by decide⟩ HT.out).mono ?_; rintro e w6 ⟨rfl, m6⟩; refine Hid.out ?_)
  refine Lib.hid ?_
  have M6 := Lib.hid m6
  clear m6 M5
  go_wp2_with (go_at_call 16; refine (n_text_eq M6.out (i := 0) rfl T2.out ⟨by decide, by decide⟩ HT.out).mono ?_; rintro e w7 ⟨rfl, m7⟩; refine Hid.out ?_)
  refine Lib.hid ?_
  have M7 := Lib.hid m7
  clear m7 M6
  go_wp2_with (go_at_call 16; refine (n_text_eq M7.out (i := 0) rfl T3.out ⟨by decide, by decide⟩ HT.out).mono ?_; rintro e w8 ⟨rfl, m8⟩; refine Hid.out ?_)
  refine Lib.hid ?_
  have M8 := Lib.hid m8
  clear m8 M7
  go_wp2_with (go_at_call 9; refine (n_open_no (M8.out.fresh ((Below.refl _ _).alloc (Nat.le_refl _) _)) (texts_cells (l := [xX, xY, xX]) (MapKept.heap_alloc _ _).1 rfl) (by decide) Q1.out).mono ?_; rintro e w9 ⟨rfl, m9⟩; refine Hid.out ?_)
  refine Lib.hid ?_
  have M9 := Lib.hid m9
  clear m9 M8
  go_wp2_with (go_at_call 18; refine (n_len M9.out (i := 0) rfl).mono ?_; rintro e w10 ⟨rfl, rfl⟩; refine Hid.out ?_)
  refine Lib.hid ?_
  go_wp2_with (go_at_call 10; refine (long_any _ _).mono ?_; rintro e w10 ⟨rfl, hb⟩; refine Hid.out ?_)
  refine Lib.hid ?_
  have M10 := Lib.hid (M9.out.fresh hb)
  clear hb M9
  go_wp2_with (go_at_call 14; refine (n_of_eq M10.out (i := 0) rfl (of_long _) (by decide)).mono ?_; rintro e w11 ⟨rfl, m11⟩; refine Hid.out ?_)
  refine Lib.hid ?_
  have M11 := Lib.hid m11
  clear m11 M10
  go_wp2
  go_ret
  exact ⟨rfl, M11.out.below⟩
end
end Go.Proofs.Ytjhedlkanphlhaa
