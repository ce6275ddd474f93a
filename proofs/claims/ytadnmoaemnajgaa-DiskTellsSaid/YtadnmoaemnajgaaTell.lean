/- tell: an act is performed by the reference. -/
import Derived.Test.YtadnmoaemnajgaaRNew
namespace Go.Proofs.Ytadnmoaemnajgaa
open Go.RowKit Go.Maps Go.ChangeMaps Go.MapKept
open Dp
attribute [local go_sem ↓] Go.wp_at_zero Go.wp_at_succ
def Rf.act (R : Rf) (x : Act1) : Int × Rf :=
  if x.K % 8 = 2 then (R.comes 0 0 []).sy x.F else if x.K % 8 = 3 then (R.comes 0 0 []).tr x.F x.N else if x.K % 8 = 4 then (0, { R with lost := (x.N % 4).toNat })
  else if x.K % 8 = 5 then (0, R.arm x.N x.Keep) else if x.K % 8 = 6 then (0, R.crash x.Keep) else if x.K % 8 = 7 then (0, { R with down := false }) else (R.comes x.F x.N x.S).wr x.F x.N x.S
section
variable {w : World} {lab : Nat → Nat} {id r : Nat} {R : Rf} {L : RLoc}
set_option maxHeartbeats 1000000 in
set_option maxRecDepth 100000 in
theorem tell_0 (h : RIn w lab id r R L) (hin : R.In) (x : Act1) (ho : x.Ok) (hf : Few1 x) (va : Option Addr) (vc : Nat) (hs : SrcIs w 1 (.slice va x.Keep.length vc) x.Keep.length (intVs x.Keep)) (hout : Outside lab id (.slice va x.Keep.length vc)) (hk : x.K % 8 = 0) :
    Calls Try.prog 13 #[.pointer (some ⟨r, 0, none⟩), .agg #[.int .i64 x.K, .int .i64 x.F, .int .i64 x.N, .string (bs x.S), .slice va x.Keep.length vc]] w (RPost lab id r (.int .i64 (R.act x).1) (R.act x).2 w) := by
  have hb := below_alloc w (.cells #[.int .i64 x.K, .int .i64 x.F, .int .i64 x.N, .string (bs x.S), .slice va x.Keep.length vc] 33)
  have HACT := Lib.hid (show R.act x = (R.comes x.F x.N x.S).wr x.F x.N x.S by simp [Rf.act, hk])
  rw [← i64_and7] at hk
  have H1 := Lib.hid (h.fresh hb)
  have K1 := Lib.hid (h.chg0 hb)
  have HG := Lib.hid hin
  have HO := Lib.hid ho
  have HF := Lib.hid hf
  have HS := Lib.hid (src_keep hs hb)
  have HU := Lib.hid hout
  have HCT := Lib.hid (rwrite_any H1.out HG.out x.F x.N x.S HO.out.F HO.out.N (by have := HF.out.1; omega))
  clear h hin ho hf hs hout hb
  go_enter Try.func13, Try.ntmps13
  go_wp2_with (go_at_call 38; refine HCT.out.mono ?_; rintro e w2 ⟨rfl, lab2, g2, k2⟩; have G2 := Lib.hid g2; have K2 := Lib.hid k2; clear g2 k2; refine Hid.out ?_)
  refine Lib.hid ?_
  go_wp2
  go_ret
  exact ⟨by rw [HACT.out]; rfl, lab2, by rw [HACT.out]; exact G2.out, K1.out.trans K2.out⟩
set_option maxHeartbeats 1000000 in
set_option maxRecDepth 100000 in
theorem tell_1 (h : RIn w lab id r R L) (hin : R.In) (x : Act1) (ho : x.Ok) (hf : Few1 x) (va : Option Addr) (vc : Nat) (hs : SrcIs w 1 (.slice va x.Keep.length vc) x.Keep.length (intVs x.Keep)) (hout : Outside lab id (.slice va x.Keep.length vc)) (hk : x.K % 8 = 1) :
    Calls Try.prog 13 #[.pointer (some ⟨r, 0, none⟩), .agg #[.int .i64 x.K, .int .i64 x.F, .int .i64 x.N, .string (bs x.S), .slice va x.Keep.length vc]] w (RPost lab id r (.int .i64 (R.act x).1) (R.act x).2 w) := by
  have hb := below_alloc w (.cells #[.int .i64 x.K, .int .i64 x.F, .int .i64 x.N, .string (bs x.S), .slice va x.Keep.length vc] 33)
  have HACT := Lib.hid (show R.act x = (R.comes x.F x.N x.S).wr x.F x.N x.S by simp [Rf.act, hk])
  rw [← i64_and7] at hk
  have H1 := Lib.hid (h.fresh hb)
  have K1 := Lib.hid (h.chg0 hb)
  have HG := Lib.hid hin
  have HO := Lib.hid ho
  have HF := Lib.hid hf
  have HS := Lib.hid (src_keep hs hb)
  have HU := Lib.hid hout
  have HCT := Lib.hid (rwrite_any H1.out HG.out x.F x.N x.S HO.out.F HO.out.N (by have := HF.out.1; omega))
  clear h hin ho hf hs hout hb
  go_enter Try.func13, Try.ntmps13
  go_wp2_with (go_at_call 38; refine HCT.out.mono ?_; rintro e w2 ⟨rfl, lab2, g2, k2⟩; have G2 := Lib.hid g2; have K2 := Lib.hid k2; clear g2 k2; refine Hid.out ?_)
  refine Lib.hid ?_
  go_wp2
  go_ret
  exact ⟨by rw [HACT.out]; rfl, lab2, by rw [HACT.out]; exact G2.out, K1.out.trans K2.out⟩
set_option maxHeartbeats 1000000 in
set_option maxRecDepth 100000 in
theorem tell_2 (h : RIn w lab id r R L) (hin : R.In) (x : Act1) (ho : x.Ok) (hf : Few1 x) (va : Option Addr) (vc : Nat) (hs : SrcIs w 1 (.slice va x.Keep.length vc) x.Keep.length (intVs x.Keep)) (hout : Outside lab id (.slice va x.Keep.length vc)) (hk : x.K % 8 = 2) :
    Calls Try.prog 13 #[.pointer (some ⟨r, 0, none⟩), .agg #[.int .i64 x.K, .int .i64 x.F, .int .i64 x.N, .string (bs x.S), .slice va x.Keep.length vc]] w (RPost lab id r (.int .i64 (R.act x).1) (R.act x).2 w) := by
  have hb := below_alloc w (.cells #[.int .i64 x.K, .int .i64 x.F, .int .i64 x.N, .string (bs x.S), .slice va x.Keep.length vc] 33)
  have HACT := Lib.hid (show R.act x = (R.comes 0 0 []).sy x.F by simp [Rf.act, hk])
  rw [← i64_and7] at hk
  have H1 := Lib.hid (h.fresh hb)
  have K1 := Lib.hid (h.chg0 hb)
  have HG := Lib.hid hin
  have HO := Lib.hid ho
  have HF := Lib.hid hf
  have HS := Lib.hid (src_keep hs hb)
  have HU := Lib.hid hout
  have HCT := Lib.hid (rsync_any H1.out HG.out x.F HO.out.F)
  clear h hin ho hf hs hout hb
  go_enter Try.func13, Try.ntmps13
  go_wp2_with (go_at_call 32; refine HCT.out.mono ?_; rintro e w2 ⟨rfl, lab2, g2, k2⟩; have G2 := Lib.hid g2; have K2 := Lib.hid k2; clear g2 k2; refine Hid.out ?_)
  refine Lib.hid ?_
  go_wp2
  go_ret
  exact ⟨by rw [HACT.out]; rfl, lab2, by rw [HACT.out]; exact G2.out, K1.out.trans K2.out⟩
set_option maxHeartbeats 1000000 in
set_option maxRecDepth 100000 in
theorem tell_3 (h : RIn w lab id r R L) (hin : R.In) (x : Act1) (ho : x.Ok) (hf : Few1 x) (va : Option Addr) (vc : Nat) (hs : SrcIs w 1 (.slice va x.Keep.length vc) x.Keep.length (intVs x.Keep)) (hout : Outside lab id (.slice va x.Keep.length vc)) (hk : x.K % 8 = 3) :
    Calls Try.prog 13 #[.pointer (some ⟨r, 0, none⟩), .agg #[.int .i64 x.K, .int .i64 x.F, .int .i64 x.N, .string (bs x.S), .slice va x.Keep.length vc]] w (RPost lab id r (.int .i64 (R.act x).1) (R.act x).2 w) := by
  have hb := below_alloc w (.cells #[.int .i64 x.K, .int .i64 x.F, .int .i64 x.N, .string (bs x.S), .slice va x.Keep.length vc] 33)
  have HACT := Lib.hid (show R.act x = (R.comes 0 0 []).tr x.F x.N by simp [Rf.act, hk])
  rw [← i64_and7] at hk
  have H1 := Lib.hid (h.fresh hb)
  have K1 := Lib.hid (h.chg0 hb)
  have HG := Lib.hid hin
  have HO := Lib.hid ho
  have HF := Lib.hid hf
  have HS := Lib.hid (src_keep hs hb)
  have HU := Lib.hid hout
  have HCT := Lib.hid (rtruncate_any H1.out HG.out x.F x.N HO.out.F)
  clear h hin ho hf hs hout hb
  go_enter Try.func13, Try.ntmps13
  go_wp2_with (go_at_call 33; refine HCT.out.mono ?_; rintro e w2 ⟨rfl, lab2, g2, k2⟩; have G2 := Lib.hid g2; have K2 := Lib.hid k2; clear g2 k2; refine Hid.out ?_)
  refine Lib.hid ?_
  go_wp2
  go_ret
  exact ⟨by rw [HACT.out]; rfl, lab2, by rw [HACT.out]; exact G2.out, K1.out.trans K2.out⟩
set_option maxHeartbeats 1000000 in
set_option maxRecDepth 100000 in
theorem tell_4 (h : RIn w lab id r R L) (hin : R.In) (x : Act1) (ho : x.Ok) (hf : Few1 x) (va : Option Addr) (vc : Nat) (hs : SrcIs w 1 (.slice va x.Keep.length vc) x.Keep.length (intVs x.Keep)) (hout : Outside lab id (.slice va x.Keep.length vc)) (hk : x.K % 8 = 4) :
    Calls Try.prog 13 #[.pointer (some ⟨r, 0, none⟩), .agg #[.int .i64 x.K, .int .i64 x.F, .int .i64 x.N, .string (bs x.S), .slice va x.Keep.length vc]] w (RPost lab id r (.int .i64 (R.act x).1) (R.act x).2 w) := by
  have hb := below_alloc w (.cells #[.int .i64 x.K, .int .i64 x.F, .int .i64 x.N, .string (bs x.S), .slice va x.Keep.length vc] 33)
  have HACT := Lib.hid (show R.act x = (0, { R with lost := (x.N % 4).toNat }) by simp [Rf.act, hk])
  rw [← i64_and7] at hk
  have h3 := i64_and3 x.N
  have H1 := Lib.hid (h.fresh hb)
  have K1 := Lib.hid (h.chg0 hb)
  have HG := Lib.hid hin
  have HO := Lib.hid ho
  have HF := Lib.hid hf
  have HS := Lib.hid (src_keep hs hb)
  have HU := Lib.hid hout
  have HCT := Lib.hid (rlose_any H1.out (x.N % 4) ⟨by omega, by omega⟩)
  clear h hin ho hf hs hout hb
  go_enter Try.func13, Try.ntmps13
  go_wp2_with (go_at_call 34; refine HCT.out.mono ?_; rintro e w2 ⟨rfl, lab2, g2, k2⟩; have G2 := Lib.hid g2; have K2 := Lib.hid k2; clear g2 k2; refine Hid.out ?_)
  refine Lib.hid ?_
  go_wp2
  go_ret
  exact ⟨by rw [HACT.out]; rfl, lab2, by rw [HACT.out]; exact G2.out, K1.out.trans K2.out⟩
set_option maxHeartbeats 1000000 in
set_option maxRecDepth 100000 in
theorem tell_5 (h : RIn w lab id r R L) (hin : R.In) (x : Act1) (ho : x.Ok) (hf : Few1 x) (va : Option Addr) (vc : Nat) (hs : SrcIs w 1 (.slice va x.Keep.length vc) x.Keep.length (intVs x.Keep)) (hout : Outside lab id (.slice va x.Keep.length vc)) (hk : x.K % 8 = 5) :
    Calls Try.prog 13 #[.pointer (some ⟨r, 0, none⟩), .agg #[.int .i64 x.K, .int .i64 x.F, .int .i64 x.N, .string (bs x.S), .slice va x.Keep.length vc]] w (RPost lab id r (.int .i64 (R.act x).1) (R.act x).2 w) := by
  have hb := below_alloc w (.cells #[.int .i64 x.K, .int .i64 x.F, .int .i64 x.N, .string (bs x.S), .slice va x.Keep.length vc] 33)
  have HACT := Lib.hid (show R.act x = (0, R.arm x.N x.Keep) by simp [Rf.act, hk])
  rw [← i64_and7] at hk
  have H1 := Lib.hid (h.fresh hb)
  have K1 := Lib.hid (h.chg0 hb)
  have HG := Lib.hid hin
  have HO := Lib.hid ho
  have HF := Lib.hid hf
  have HS := Lib.hid (src_keep hs hb)
  have HU := Lib.hid hout
  have HCT := Lib.hid (rarm_any H1.out x.N HO.out.N _ x.Keep ⟨HS.out, .inr HU.out⟩ HO.out.Keep (by have := HF.out.2.1; omega))
  clear h hin ho hf hs hout hb
  go_enter Try.func13, Try.ntmps13
  go_wp2_with (go_at_call 35; refine HCT.out.mono ?_; rintro e w2 ⟨rfl, lab2, g2, k2⟩; have G2 := Lib.hid g2; have K2 := Lib.hid k2; clear g2 k2; refine Hid.out ?_)
  refine Lib.hid ?_
  go_wp2
  go_ret
  exact ⟨by rw [HACT.out]; rfl, lab2, by rw [HACT.out]; exact G2.out, K1.out.trans K2.out⟩
set_option maxHeartbeats 1000000 in
set_option maxRecDepth 100000 in
theorem tell_6 (h : RIn w lab id r R L) (hin : R.In) (x : Act1) (ho : x.Ok) (hf : Few1 x) (va : Option Addr) (vc : Nat) (hs : SrcIs w 1 (.slice va x.Keep.length vc) x.Keep.length (intVs x.Keep)) (hout : Outside lab id (.slice va x.Keep.length vc)) (hk : x.K % 8 = 6) :
    Calls Try.prog 13 #[.pointer (some ⟨r, 0, none⟩), .agg #[.int .i64 x.K, .int .i64 x.F, .int .i64 x.N, .string (bs x.S), .slice va x.Keep.length vc]] w (RPost lab id r (.int .i64 (R.act x).1) (R.act x).2 w) := by
  have hb := below_alloc w (.cells #[.int .i64 x.K, .int .i64 x.F, .int .i64 x.N, .string (bs x.S), .slice va x.Keep.length vc] 33)
  have HACT := Lib.hid (show R.act x = (0, R.crash x.Keep) by simp [Rf.act, hk])
  rw [← i64_and7] at hk
  have H1 := Lib.hid (h.fresh hb)
  have K1 := Lib.hid (h.chg0 hb)
  have HG := Lib.hid hin
  have HO := Lib.hid ho
  have HF := Lib.hid hf
  have HS := Lib.hid (src_keep hs hb)
  have HU := Lib.hid hout
  have HCT := Lib.hid (rcrash_any H1.out _ x.Keep ⟨HS.out, .inr HU.out⟩ (by have := HF.out.2.1; omega) HG.out)
  clear h hin ho hf hs hout hb
  go_enter Try.func13, Try.ntmps13
  go_wp2_with (go_at_call 36; refine HCT.out.mono ?_; rintro e w2 ⟨rfl, lab2, g2, k2⟩; have G2 := Lib.hid g2; have K2 := Lib.hid k2; clear g2 k2; refine Hid.out ?_)
  refine Lib.hid ?_
  go_wp2
  go_ret
  exact ⟨by rw [HACT.out]; rfl, lab2, by rw [HACT.out]; exact G2.out, K1.out.trans K2.out⟩
set_option maxHeartbeats 1000000 in
set_option maxRecDepth 100000 in
theorem tell_7 (h : RIn w lab id r R L) (hin : R.In) (x : Act1) (ho : x.Ok) (hf : Few1 x) (va : Option Addr) (vc : Nat) (hs : SrcIs w 1 (.slice va x.Keep.length vc) x.Keep.length (intVs x.Keep)) (hout : Outside lab id (.slice va x.Keep.length vc)) (hk : x.K % 8 = 7) :
    Calls Try.prog 13 #[.pointer (some ⟨r, 0, none⟩), .agg #[.int .i64 x.K, .int .i64 x.F, .int .i64 x.N, .string (bs x.S), .slice va x.Keep.length vc]] w (RPost lab id r (.int .i64 (R.act x).1) (R.act x).2 w) := by
  have hb := below_alloc w (.cells #[.int .i64 x.K, .int .i64 x.F, .int .i64 x.N, .string (bs x.S), .slice va x.Keep.length vc] 33)
  have HACT := Lib.hid (show R.act x = (0, { R with down := false }) by simp [Rf.act, hk])
  rw [← i64_and7] at hk
  have H1 := Lib.hid (h.fresh hb)
  have K1 := Lib.hid (h.chg0 hb)
  have HG := Lib.hid hin
  have HO := Lib.hid ho
  have HF := Lib.hid hf
  have HS := Lib.hid (src_keep hs hb)
  have HU := Lib.hid hout
  have HCT := Lib.hid (rstart_any H1.out)
  clear h hin ho hf hs hout hb
  go_enter Try.func13, Try.ntmps13
  go_wp2_with (go_at_call 37; refine HCT.out.mono ?_; rintro e w2 ⟨rfl, lab2, g2, k2⟩; have G2 := Lib.hid g2; have K2 := Lib.hid k2; clear g2 k2; refine Hid.out ?_)
  refine Lib.hid ?_
  go_wp2
  go_ret
  exact ⟨by rw [HACT.out]; rfl, lab2, by rw [HACT.out]; exact G2.out, K1.out.trans K2.out⟩
theorem tell_any (h : RIn w lab id r R L) (hin : R.In) (x : Act1) (ho : x.Ok) (hf : Few1 x) (va : Option Addr) (vc : Nat) (hs : SrcIs w 1 (.slice va x.Keep.length vc) x.Keep.length (intVs x.Keep)) (hout : Outside lab id (.slice va x.Keep.length vc)) :
    Calls Try.prog 13 #[.pointer (some ⟨r, 0, none⟩), .agg #[.int .i64 x.K, .int .i64 x.F, .int .i64 x.N, .string (bs x.S), .slice va x.Keep.length vc]] w (RPost lab id r (.int .i64 (R.act x).1) (R.act x).2 w) := by
  have h8 : x.K % 8 = 0 ∨ x.K % 8 = 1 ∨ x.K % 8 = 2 ∨ x.K % 8 = 3 ∨ x.K % 8 = 4 ∨ x.K % 8 = 5 ∨ x.K % 8 = 6 ∨ x.K % 8 = 7 := by omega
  rcases h8 with h8 | h8 | h8 | h8 | h8 | h8 | h8 | h8
  · exact tell_0 h hin x ho hf va vc hs hout h8
  · exact tell_1 h hin x ho hf va vc hs hout h8
  · exact tell_2 h hin x ho hf va vc hs hout h8
  · exact tell_3 h hin x ho hf va vc hs hout h8
  · exact tell_4 h hin x ho hf va vc hs hout h8
  · exact tell_5 h hin x ho hf va vc hs hout h8
  · exact tell_6 h hin x ho hf va vc hs hout h8
  · exact tell_7 h hin x ho hf va vc hs hout h8
end
end Go.Proofs.Ytadnmoaemnajgaa
