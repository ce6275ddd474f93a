/- Disks and the reference in one memory. -/
import Derived.Test.YtadnmoaemnajgaaSim
import Derived.Test.YtadnmoaemnajgaaMem
namespace Go.Proofs.Ytadnmoaemnajgaa
open Go.RowKit Go.Maps Go.ChangeMaps Go.MapKept
open Dp
attribute [local go_sem ↓] Go.wp_at_zero Go.wp_at_succ
theorem MemL.aside {w0 w w' : World} {ds : List (Nat × Dk)} {id : Nat} {lab lab' : Nat → Nat} (h : MemL w0 w lab ds) (hid : 64 * ds.length + 64 ≤ id) (lo : LabOk lab' w') (k : Chg id lab lab' w w') : MemL w0 w' lab' ds := by
  refine ⟨lo, h.und.step k (by omega), fun j p hj => ?_⟩
  have := (List.getElem?_eq_some_iff.1 hj).1
  exact (h.at_ j p hj).other k lo (by omega)
theorem RG.other {w w' : World} {lab lab' : Nat → Nat} {id id' r : Nat} {R : Rf} (h : RG w lab id r R) (k : Chg id' lab lab' w w') (lo : LabOk lab' w') (hne : id' + 64 ≤ id ∨ id + 64 ≤ id') : RG w' lab' id r R := by
  obtain ⟨L, h⟩ := h; exact ⟨L, h.other k lo hne⟩
/-- At most 90 disks, and the reference in block r. -/
def BothM (w0 w : World) (ds : List (Nat × Dk)) (r : Nat) (R : Rf) : Prop := ∃ lab, MemL w0 w lab ds ∧ RG w lab 6400 r R
section
variable {w0 w : World} {ds : List (Nat × Dk)} {i b r : Nat} {D : Dk} {R : Rf}
theorem BothM.below (h : BothM w0 w ds r R) : Below w0.heap.size w0 w := by obtain ⟨_, h, _⟩ := h; exact h.und.below
theorem BothM.fresh {w' : World} (h : BothM w0 w ds r R) (hb : Below w.heap.size w w') : BothM w0 w' ds r R := by
  obtain ⟨lab, h1, h2⟩ := h; exact ⟨lab, h1.fresh hb, h2.fresh hb⟩
theorem BothM.rok (h : BothM w0 w ds r R) : R.Ok := by obtain ⟨_, _, h⟩ := h; exact h.ok
theorem BothM.good (h : BothM w0 w ds r R) (hi : ds[i]? = some (b, D)) : Good D := by
  obtain ⟨lab, h, _⟩ := h
  obtain ⟨_, hg⟩ := h.at_ i _ hi
  exact hg
theorem bm_rnew (h : Mem w0 w ds) (hn : ds.length ≤ 90) : Calls Try.prog 11 #[] w fun e w' => ∃ r, e = .returned (.pointer (some ⟨r, 0, none⟩)) ∧ BothM w0 w' ds r Rf.new := by
  obtain ⟨lab, h⟩ := h
  exact (rnew_any w lab 6400 (by omega)).mono fun e w' ⟨he, g, k⟩ => ⟨_, he, _, h.aside (by omega) g.lo k, ⟨_, g⟩⟩
theorem bm_do (h : BothM w0 w ds r R) (hn : ds.length ≤ 90) (hi : ds[i]? = some (b, D)) (x : Act1) (ho : x.Ok) (hf : Few1 x) (va : Option Addr) (vc : Nat) (hs : Nums w0 w (.slice va x.Keep.length vc) x.Keep) :
    Calls Try.prog 12 #[.pointer (some ⟨b, 0, none⟩), .agg #[.int .i64 x.K, .int .i64 x.F, .int .i64 x.N, .string (bs x.S), .slice va x.Keep.length vc]] w fun e w' => e = .returned (.int .i64 (Dk.act D x).1) ∧ BothM w0 w' (ds.set i (b, (Dk.act D x).2)) r R := by
  obtain ⟨lab, h, hr⟩ := h
  have hlt := (List.getElem?_eq_some_iff.1 hi).1
  exact (dg_do (h.at_ i _ hi) x ho hf va vc hs.1 (fun ad n c hv hn => .inl (by rw [h.und.labs _ (hs.2.2 ad n c hv hn)]; omega))).mono fun e w' ⟨he, lab', g, k⟩ => ⟨he, lab', h.set hi g k, hr.other k g.lo (.inl (by omega))⟩
theorem bm_tell (h : BothM w0 w ds r R) (hn : ds.length ≤ 90) (hin : R.In) (x : Act1) (ho : x.Ok) (hf : Few1 x) (va : Option Addr) (vc : Nat) (hs : Nums w0 w (.slice va x.Keep.length vc) x.Keep) :
    Calls Try.prog 13 #[.pointer (some ⟨r, 0, none⟩), .agg #[.int .i64 x.K, .int .i64 x.F, .int .i64 x.N, .string (bs x.S), .slice va x.Keep.length vc]] w fun e w' => e = .returned (.int .i64 (R.act x).1) ∧ BothM w0 w' ds r (R.act x).2 := by
  obtain ⟨lab, h, L, hr⟩ := h
  exact (tell_any hr hin x ho hf va vc hs.1 (fun ad n c hv hn => .inl (by rw [h.und.labs _ (hs.2.2 ad n c hv hn)]; omega))).mono fun e w' ⟨he, lab', g, k⟩ => ⟨he, lab', h.aside (by omega) g.lo k, g⟩
theorem bm_down (h : BothM w0 w ds r R) (hi : ds[i]? = some (b, D)) : Calls Try.prog 14 #[.pointer (some ⟨b, 0, none⟩)] w fun e w' => e = .returned (.bool D.down) ∧ w = w' := by
  obtain ⟨lab, h, _⟩ := h; exact dg_down (h.at_ i _ hi)
theorem bm_size (h : BothM w0 w ds r R) (hi : ds[i]? = some (b, D)) (f : Int) (hf : I64 f) : Calls Try.prog 16 #[.pointer (some ⟨b, 0, none⟩), .int .i64 f] w fun e w' => e = .returned (.int .i64 (D.size f : Int)) ∧ w = w' := by
  obtain ⟨lab, h, _⟩ := h; exact dg_size (h.at_ i _ hi) f hf
theorem bm_rdown (h : BothM w0 w ds r R) : Calls Try.prog 15 #[.pointer (some ⟨r, 0, none⟩)] w fun e w' => e = .returned (.bool R.down) ∧ w = w' := by
  obtain ⟨lab, _, L, h⟩ := h; exact rdown_any h
theorem bm_rsize (h : BothM w0 w ds r R) (f : Int) (hf : I64 f) : Calls Try.prog 17 #[.pointer (some ⟨r, 0, none⟩), .int .i64 f] w fun e w' => e = .returned (.int .i64 (R.size f : Int)) ∧ BothM w0 w' ds r R := by
  have hb := h
  obtain ⟨lab, _, L, h⟩ := h; exact (rsize_any h f hf).mono fun e w' ⟨he, b⟩ => ⟨he, hb.fresh b⟩
theorem bm_sync (h : BothM w0 w ds r R) (hn : ds.length ≤ 90) (hi : ds[i]? = some (b, D)) (f : Int) (hf : I64 f) :
    Calls Try.prog 19 #[.pointer (some ⟨b, 0, none⟩), .int .i64 f] w fun e w' => e = .returned (.int .i64 (D.sync f).1) ∧ BothM w0 w' (ds.set i (b, (D.sync f).2)) r R := by
  obtain ⟨lab, h, hr⟩ := h
  have hlt := (List.getElem?_eq_some_iff.1 hi).1
  exact (dg_sync (h.at_ i _ hi) f hf).mono fun e w' ⟨he, lab', g, k⟩ => ⟨he, lab', h.set hi g k, hr.other k g.lo (.inl (by omega))⟩
theorem bm_copy (h : BothM w0 w ds r R) (hn : ds.length ≤ 90) (hi : ds[i]? = some (b, D)) (hkl : D.keep.length ≤ 1000000) : Calls Try.prog 18 #[.pointer (some ⟨b, 0, none⟩)] w fun e w' => ∃ c, e = .returned (.pointer (some ⟨c, 0, none⟩)) ∧ BothM w0 w' (ds ++ [(c, D)]) r R := by
  obtain ⟨lab, h, hr⟩ := h
  exact (dg_copy (h.at_ i _ hi) (64 * (ds.length + 1)) (by omega) hkl).mono fun e w' ⟨b', he, lab', g, k⟩ => ⟨b', he, lab', h.push g k, hr.other k g.lo (.inl (by omega))⟩
theorem bm_read (h : BothM w0 w ds r R) (hi : ds[i]? = some (b, D)) (f a n : Int) (hf : I64 f) (ha : I64 a) (hn : I64 n) :
    Calls Try.prog 20 #[.pointer (some ⟨b, 0, none⟩), .int .i64 f, .int .i64 a, .int .i64 n] w fun e w' => e = .returned (.tuple #[.string (bs (D.read f a n).1), .int .i64 (D.read f a n).2]) ∧ BothM w0 w' ds r R := by
  have hm := h
  obtain ⟨lab, h, _⟩ := h
  exact (dg_read (h.at_ i _ hi) f a n hf ha hn).mono fun e w' ⟨he, hp⟩ => ⟨he, hm.fresh (hp_below hp)⟩
theorem bm_rread (h : BothM w0 w ds r R) (f a n : Int) (hf : I64 f) :
    Calls Try.prog 21 #[.pointer (some ⟨r, 0, none⟩), .int .i64 f, .int .i64 a, .int .i64 n] w fun e w' => e = .returned (.tuple #[.string (bs (R.read f a n).1), .int .i64 (R.read f a n).2]) ∧ BothM w0 w' ds r R := by
  have hm := h
  obtain ⟨lab, _, L, h⟩ := h
  exact (rread_any h f a n hf).mono fun e w' ⟨he, hb⟩ => ⟨he, hm.fresh hb⟩
end
end Go.Proofs.Ytadnmoaemnajgaa
