/- do: an act is performed. -/
import Derived.Test.YtadnmoaemnajgaaActs
namespace Go.Proofs.Ytadnmoaemnajgaa
open Go.RowKit Go.Maps Go.ChangeMaps Go.MapKept
open Dp
attribute [local go_sem ↓] Go.wp_at_zero Go.wp_at_succ

section
variable {w : World} {lab : Nat → Nat} {id b : Nat} {D : Dk} {L : Loc}
theorem chg_fresh {w' : World} {mk : List (Nat × Nat)} (h : DiskIn w lab id b D mk L) (hb : Below w.heap.size w w') : Chg id lab lab w w' := chg_below (Chg.refl h.lo) h hb

set_option maxHeartbeats 1000000 in
set_option maxRecDepth 100000 in
theorem do_2 (h : DiskIn w lab id b D D.pend L) (hg : Good D) (x : Act1) (ho : x.Ok) (hf : Few1 x) (va : Option Addr) (vc : Nat) (hs : SrcIs w 1 (.slice va x.Keep.length vc) x.Keep.length (intVs x.Keep)) (hout : Outside lab id (.slice va x.Keep.length vc)) (hk : x.K % 8 = 2) :
    Calls Try.prog 12 #[.pointer (some ⟨b, 0, none⟩), .agg #[.int .i64 x.K, .int .i64 x.F, .int .i64 x.N, .string (bs x.S), .slice va x.Keep.length vc]] w (ResPost lab id b (.int .i64 (Dk.act D x).1) (Dk.act D x).2 w) := by
  have hb := below_alloc w (.cells #[.int .i64 x.K, .int .i64 x.F, .int .i64 x.N, .string (bs x.S), .slice va x.Keep.length vc] 33)
  have HACT := Lib.hid (show Dk.act D x = D.sync x.F by simp [Dk.act, hk])
  rw [← i64_and7] at hk
  have H1 := Lib.hid (h.fresh hb)
  have K1 := Lib.hid (chg_fresh h hb)
  have HG := Lib.hid hg
  have HO := Lib.hid ho
  have HF := Lib.hid hf
  have HS := Lib.hid (src_keep hs hb)
  have HU := Lib.hid hout
  clear h hg ho hf hs hout hb
  go_enter Try.func12, Try.ntmps12
  go_wp2_with (go_at_call 19; refine (sync_any H1.out HG.out.inn x.F HO.out.F).mono ?_; rintro e w2 ⟨rfl, lab2, L2, h2, k2⟩; have H2 := Lib.hid h2; have K2 := Lib.hid k2; clear h2 k2; refine Hid.out ?_)
  refine Lib.hid ?_
  go_wp2
  go_ret
  exact ⟨by rw [HACT.out]; rfl, lab2, L2, by rw [HACT.out]; exact H2.out, K1.out.trans K2.out⟩

set_option maxHeartbeats 1000000 in
set_option maxRecDepth 100000 in
theorem do_3 (h : DiskIn w lab id b D D.pend L) (hg : Good D) (x : Act1) (ho : x.Ok) (hf : Few1 x) (va : Option Addr) (vc : Nat) (hs : SrcIs w 1 (.slice va x.Keep.length vc) x.Keep.length (intVs x.Keep)) (hout : Outside lab id (.slice va x.Keep.length vc)) (hk : x.K % 8 = 3) :
    Calls Try.prog 12 #[.pointer (some ⟨b, 0, none⟩), .agg #[.int .i64 x.K, .int .i64 x.F, .int .i64 x.N, .string (bs x.S), .slice va x.Keep.length vc]] w (ResPost lab id b (.int .i64 (Dk.act D x).1) (Dk.act D x).2 w) := by
  have hb := below_alloc w (.cells #[.int .i64 x.K, .int .i64 x.F, .int .i64 x.N, .string (bs x.S), .slice va x.Keep.length vc] 33)
  have HACT := Lib.hid (show Dk.act D x = D.truncate x.F x.N by simp [Dk.act, hk])
  rw [← i64_and7] at hk
  have H1 := Lib.hid (h.fresh hb)
  have K1 := Lib.hid (chg_fresh h hb)
  have HG := Lib.hid hg
  have HO := Lib.hid ho
  have HF := Lib.hid hf
  have HS := Lib.hid (src_keep hs hb)
  have HU := Lib.hid hout
  clear h hg ho hf hs hout hb
  go_enter Try.func12, Try.ntmps12
  go_wp2_with (go_at_call 30; refine (truncate_any H1.out HG.out x.F x.N HO.out.F HO.out.N).mono ?_; rintro e w2 ⟨rfl, lab2, L2, h2, k2⟩; have H2 := Lib.hid h2; have K2 := Lib.hid k2; clear h2 k2; refine Hid.out ?_)
  refine Lib.hid ?_
  go_wp2
  go_ret
  exact ⟨by rw [HACT.out]; rfl, lab2, L2, by rw [HACT.out]; exact H2.out, K1.out.trans K2.out⟩

set_option maxHeartbeats 1000000 in
set_option maxRecDepth 100000 in
theorem do_0 (h : DiskIn w lab id b D D.pend L) (hg : Good D) (x : Act1) (ho : x.Ok) (hf : Few1 x) (va : Option Addr) (vc : Nat) (hs : SrcIs w 1 (.slice va x.Keep.length vc) x.Keep.length (intVs x.Keep)) (hout : Outside lab id (.slice va x.Keep.length vc)) (hk : x.K % 8 = 0) :
    Calls Try.prog 12 #[.pointer (some ⟨b, 0, none⟩), .agg #[.int .i64 x.K, .int .i64 x.F, .int .i64 x.N, .string (bs x.S), .slice va x.Keep.length vc]] w (ResPost lab id b (.int .i64 (Dk.act D x).1) (Dk.act D x).2 w) := by
  have hb := below_alloc w (.cells #[.int .i64 x.K, .int .i64 x.F, .int .i64 x.N, .string (bs x.S), .slice va x.Keep.length vc] 33)
  have HACT := Lib.hid (show Dk.act D x = D.write x.F x.N x.S by simp [Dk.act, hk])
  rw [← i64_and7] at hk
  have H1 := Lib.hid (h.fresh hb)
  have K1 := Lib.hid (chg_fresh h hb)
  have HG := Lib.hid hg
  have HO := Lib.hid ho
  have HF := Lib.hid hf
  have HS := Lib.hid (src_keep hs hb)
  have HU := Lib.hid hout
  clear h hg ho hf hs hout hb
  go_enter Try.func12, Try.ntmps12
  go_wp2_with (go_at_call 29; refine (write_any H1.out HG.out.inn x.F x.N x.S HO.out.F HO.out.N (by have := HF.out.1; omega)).mono ?_; rintro e w2 ⟨rfl, lab2, L2, h2, k2⟩; have H2 := Lib.hid h2; have K2 := Lib.hid k2; clear h2 k2; refine Hid.out ?_)
  refine Lib.hid ?_
  go_wp2
  go_ret
  exact ⟨by rw [HACT.out]; rfl, lab2, L2, by rw [HACT.out]; exact H2.out, K1.out.trans K2.out⟩

set_option maxHeartbeats 1000000 in
set_option maxRecDepth 100000 in
theorem do_1 (h : DiskIn w lab id b D D.pend L) (hg : Good D) (x : Act1) (ho : x.Ok) (hf : Few1 x) (va : Option Addr) (vc : Nat) (hs : SrcIs w 1 (.slice va x.Keep.length vc) x.Keep.length (intVs x.Keep)) (hout : Outside lab id (.slice va x.Keep.length vc)) (hk : x.K % 8 = 1) :
    Calls Try.prog 12 #[.pointer (some ⟨b, 0, none⟩), .agg #[.int .i64 x.K, .int .i64 x.F, .int .i64 x.N, .string (bs x.S), .slice va x.Keep.length vc]] w (ResPost lab id b (.int .i64 (Dk.act D x).1) (Dk.act D x).2 w) := by
  have hb := below_alloc w (.cells #[.int .i64 x.K, .int .i64 x.F, .int .i64 x.N, .string (bs x.S), .slice va x.Keep.length vc] 33)
  have HACT := Lib.hid (show Dk.act D x = D.write x.F x.N x.S by simp [Dk.act, hk])
  rw [← i64_and7] at hk
  have H1 := Lib.hid (h.fresh hb)
  have K1 := Lib.hid (chg_fresh h hb)
  have HG := Lib.hid hg
  have HO := Lib.hid ho
  have HF := Lib.hid hf
  have HS := Lib.hid (src_keep hs hb)
  have HU := Lib.hid hout
  clear h hg ho hf hs hout hb
  go_enter Try.func12, Try.ntmps12
  go_wp2_with (go_at_call 29; refine (write_any H1.out HG.out.inn x.F x.N x.S HO.out.F HO.out.N (by have := HF.out.1; omega)).mono ?_; rintro e w2 ⟨rfl, lab2, L2, h2, k2⟩; have H2 := Lib.hid h2; have K2 := Lib.hid k2; clear h2 k2; refine Hid.out ?_)
  refine Lib.hid ?_
  go_wp2
  go_ret
  exact ⟨by rw [HACT.out]; rfl, lab2, L2, by rw [HACT.out]; exact H2.out, K1.out.trans K2.out⟩

set_option maxHeartbeats 1000000 in
set_option maxRecDepth 100000 in
theorem do_4 (h : DiskIn w lab id b D D.pend L) (hg : Good D) (x : Act1) (ho : x.Ok) (hf : Few1 x) (va : Option Addr) (vc : Nat) (hs : SrcIs w 1 (.slice va x.Keep.length vc) x.Keep.length (intVs x.Keep)) (hout : Outside lab id (.slice va x.Keep.length vc)) (hk : x.K % 8 = 4) :
    Calls Try.prog 12 #[.pointer (some ⟨b, 0, none⟩), .agg #[.int .i64 x.K, .int .i64 x.F, .int .i64 x.N, .string (bs x.S), .slice va x.Keep.length vc]] w (ResPost lab id b (.int .i64 (Dk.act D x).1) (Dk.act D x).2 w) := by
  have hb := below_alloc w (.cells #[.int .i64 x.K, .int .i64 x.F, .int .i64 x.N, .string (bs x.S), .slice va x.Keep.length vc] 33)
  have HACT := Lib.hid (show Dk.act D x = (0, D.lose (bits .and .i64 x.N 3)) by simp [Dk.act, hk, i64_and3])
  rw [← i64_and7] at hk
  have H1 := Lib.hid (h.fresh hb)
  have K1 := Lib.hid (chg_fresh h hb)
  have HG := Lib.hid hg
  have HO := Lib.hid ho
  have HF := Lib.hid hf
  have HS := Lib.hid (src_keep hs hb)
  have HU := Lib.hid hout
  clear h hg ho hf hs hout hb
  go_enter Try.func12, Try.ntmps12
  go_wp2_with (go_at_call 31; refine (lose_any H1.out (bits .and .i64 x.N 3) (by rw [i64_and3]; exact ⟨by omega, by omega⟩)).mono ?_; rintro e w2 ⟨rfl, h2, k2⟩; have H2 := Lib.hid h2; have K2 := Lib.hid k2; clear h2 k2; refine Hid.out ?_)
  refine Lib.hid ?_
  go_wp2
  go_ret
  exact ⟨by rw [HACT.out]; rfl, lab, L, by rw [HACT.out]; exact H2.out, K1.out.trans K2.out⟩

set_option maxHeartbeats 1000000 in
set_option maxRecDepth 100000 in
theorem do_7 (h : DiskIn w lab id b D D.pend L) (hg : Good D) (x : Act1) (ho : x.Ok) (hf : Few1 x) (va : Option Addr) (vc : Nat) (hs : SrcIs w 1 (.slice va x.Keep.length vc) x.Keep.length (intVs x.Keep)) (hout : Outside lab id (.slice va x.Keep.length vc)) (hk : x.K % 8 = 7) :
    Calls Try.prog 12 #[.pointer (some ⟨b, 0, none⟩), .agg #[.int .i64 x.K, .int .i64 x.F, .int .i64 x.N, .string (bs x.S), .slice va x.Keep.length vc]] w (ResPost lab id b (.int .i64 (Dk.act D x).1) (Dk.act D x).2 w) := by
  have hb := below_alloc w (.cells #[.int .i64 x.K, .int .i64 x.F, .int .i64 x.N, .string (bs x.S), .slice va x.Keep.length vc] 33)
  have HACT := Lib.hid (show Dk.act D x = (0, D.start) by simp [Dk.act, hk])
  rw [← i64_and7] at hk
  have H1 := Lib.hid (h.fresh hb)
  have K1 := Lib.hid (chg_fresh h hb)
  have HG := Lib.hid hg
  have HO := Lib.hid ho
  have HF := Lib.hid hf
  have HS := Lib.hid (src_keep hs hb)
  have HU := Lib.hid hout
  clear h hg ho hf hs hout hb
  go_enter Try.func12, Try.ntmps12
  go_wp2_with (go_at_call 26; refine (start_any H1.out).mono ?_; rintro e w2 ⟨rfl, h2, k2⟩; have H2 := Lib.hid h2; have K2 := Lib.hid k2; clear h2 k2; refine Hid.out ?_)
  refine Lib.hid ?_
  go_wp2
  go_ret
  exact ⟨by rw [HACT.out]; rfl, lab, L, by rw [HACT.out]; exact H2.out, K1.out.trans K2.out⟩

set_option maxHeartbeats 1000000 in
set_option maxRecDepth 100000 in
theorem do_5 (h : DiskIn w lab id b D D.pend L) (hg : Good D) (x : Act1) (ho : x.Ok) (hf : Few1 x) (va : Option Addr) (vc : Nat) (hs : SrcIs w 1 (.slice va x.Keep.length vc) x.Keep.length (intVs x.Keep)) (hout : Outside lab id (.slice va x.Keep.length vc)) (hk : x.K % 8 = 5) :
    Calls Try.prog 12 #[.pointer (some ⟨b, 0, none⟩), .agg #[.int .i64 x.K, .int .i64 x.F, .int .i64 x.N, .string (bs x.S), .slice va x.Keep.length vc]] w (ResPost lab id b (.int .i64 (Dk.act D x).1) (Dk.act D x).2 w) := by
  have hb := below_alloc w (.cells #[.int .i64 x.K, .int .i64 x.F, .int .i64 x.N, .string (bs x.S), .slice va x.Keep.length vc] 33)
  have HACT := Lib.hid (show Dk.act D x = (0, D.arm x.N x.Keep) by simp [Dk.act, hk])
  rw [← i64_and7] at hk
  have H1 := Lib.hid (h.fresh hb)
  have K1 := Lib.hid (chg_fresh h hb)
  have HG := Lib.hid hg
  have HO := Lib.hid ho
  have HF := Lib.hid hf
  have HS := Lib.hid (src_keep hs hb)
  have HU := Lib.hid hout
  clear h hg ho hf hs hout hb
  go_enter Try.func12, Try.ntmps12
  go_wp2_with (go_at_call 27; refine (arm_any H1.out x.N HO.out.N _ x.Keep HS.out HO.out.Keep (by have := HF.out.2.1; omega)).mono ?_; rintro e w2 ⟨rfl, lab2, L2, h2, k2⟩; have H2 := Lib.hid h2; have K2 := Lib.hid k2; clear h2 k2; refine Hid.out ?_)
  refine Lib.hid ?_
  go_wp2
  go_ret
  exact ⟨by rw [HACT.out]; rfl, lab2, L2, by rw [HACT.out]; exact H2.out, K1.out.trans K2.out⟩

set_option maxHeartbeats 1000000 in
set_option maxRecDepth 100000 in
theorem do_6 (h : DiskIn w lab id b D D.pend L) (hg : Good D) (x : Act1) (ho : x.Ok) (hf : Few1 x) (va : Option Addr) (vc : Nat) (hs : SrcIs w 1 (.slice va x.Keep.length vc) x.Keep.length (intVs x.Keep)) (hout : Outside lab id (.slice va x.Keep.length vc)) (hk : x.K % 8 = 6) :
    Calls Try.prog 12 #[.pointer (some ⟨b, 0, none⟩), .agg #[.int .i64 x.K, .int .i64 x.F, .int .i64 x.N, .string (bs x.S), .slice va x.Keep.length vc]] w (ResPost lab id b (.int .i64 (Dk.act D x).1) (Dk.act D x).2 w) := by
  have hb := below_alloc w (.cells #[.int .i64 x.K, .int .i64 x.F, .int .i64 x.N, .string (bs x.S), .slice va x.Keep.length vc] 33)
  have HACT := Lib.hid (show Dk.act D x = (0, D.crash x.Keep) by simp [Dk.act, hk])
  rw [← i64_and7] at hk
  have H1 := Lib.hid (h.fresh hb)
  have K1 := Lib.hid (chg_fresh h hb)
  have HG := Lib.hid hg
  have HO := Lib.hid ho
  have HF := Lib.hid hf
  have HS := Lib.hid (src_keep hs hb)
  have HU := Lib.hid hout
  clear h hg ho hf hs hout hb
  go_enter Try.func12, Try.ntmps12
  go_wp2_with (go_at_call 25; refine (crash_any H1.out _ x.Keep ⟨HS.out, .inr HU.out⟩ (by have := HF.out.2.1; omega) HG.out.inn).mono ?_; rintro e w2 ⟨rfl, lab2, L2, h2, k2⟩; have H2 := Lib.hid h2; have K2 := Lib.hid k2; clear h2 k2; refine Hid.out ?_)
  refine Lib.hid ?_
  go_wp2
  go_ret
  exact ⟨by rw [HACT.out]; rfl, lab2, L2, by rw [HACT.out]; exact H2.out, K1.out.trans K2.out⟩

theorem do_any (h : DiskIn w lab id b D D.pend L) (hg : Good D) (x : Act1) (ho : x.Ok) (hf : Few1 x) (va : Option Addr) (vc : Nat) (hs : SrcIs w 1 (.slice va x.Keep.length vc) x.Keep.length (intVs x.Keep)) (hout : Outside lab id (.slice va x.Keep.length vc)) :
    Calls Try.prog 12 #[.pointer (some ⟨b, 0, none⟩), .agg #[.int .i64 x.K, .int .i64 x.F, .int .i64 x.N, .string (bs x.S), .slice va x.Keep.length vc]] w (ResPost lab id b (.int .i64 (Dk.act D x).1) (Dk.act D x).2 w) := by
  have h8 : x.K % 8 = 0 ∨ x.K % 8 = 1 ∨ x.K % 8 = 2 ∨ x.K % 8 = 3 ∨ x.K % 8 = 4 ∨ x.K % 8 = 5 ∨ x.K % 8 = 6 ∨ x.K % 8 = 7 := by omega
  rcases h8 with h8 | h8 | h8 | h8 | h8 | h8 | h8 | h8
  · exact do_0 h hg x ho hf va vc hs hout h8
  · exact do_1 h hg x ho hf va vc hs hout h8
  · exact do_2 h hg x ho hf va vc hs hout h8
  · exact do_3 h hg x ho hf va vc hs hout h8
  · exact do_4 h hg x ho hf va vc hs hout h8
  · exact do_5 h hg x ho hf va vc hs hout h8
  · exact do_6 h hg x ho hf va vc hs hout h8
  · exact do_7 h hg x ho hf va vc hs hout h8
end
end Go.Proofs.Ytadnmoaemnajgaa
