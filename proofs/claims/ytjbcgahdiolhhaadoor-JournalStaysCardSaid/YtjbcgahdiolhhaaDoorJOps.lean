/- The journal's methods, but for Open. -/
import Derived.Test.YtjbcgahdiolhhaaDoorJJour
import Derived.Deep.RegionHeld3
namespace Go.Proofs.YtjbcgahdiolhhaaDoor.D2
open Go.RowKit Go.Maps Go.ChangeMaps Go.MapKept
open Dp Jp
attribute [local go_sem ↓] Go.wp_at_zero Go.wp_at_succ

section
variable {w0 w : World} {os : List Ob} {i k b d : Nat} {D : Dk} {J : Jn}
/-- What a method of the journal at place k leaves, whose disk is at place i. -/
def JPost (w0 : World) (os : List Ob) (i k b d : Nat) (r : Int × Dk × Jn) (e : Ending) (w' : World) : Prop := e = .returned (.int .i64 r.1) ∧ OMem w0 w' ((os.set i (.disk d r.2.1)).set k (.jour b d r.2.2))
theorem set_noop {α : Type} {l : List α} {i : Nat} {a : α} (h : l[i]? = some a) : l.set i a = l := by
  apply List.ext_getElem?
  intro j
  rw [List.getElem?_set]
  split
  · rename_i e; subst e
    obtain ⟨hlt, _⟩ := List.getElem?_eq_some_iff.1 h
    rw [if_pos hlt, h]
  · rfl

theorem OMem.two (h : OMem w0 w os) (hk : os[k]? = some (.jour b d J)) : w.cell? ⟨b, 0, none⟩ = some (.pointer (some ⟨d, 0, none⟩)) ∧ w.cell? ⟨b, 1, none⟩ = some (.int .i64 J.file) := by
  obtain ⟨v, hc⟩ := h.jour hk
  exact ⟨hc.c0, hc.c1⟩
theorem i64_small {n : Int} (h : 0 ≤ n ∧ n ≤ 9) : I64 n := ⟨by omega, by omega⟩
theorem i64_err_sync (D : Dk) (f : Int) : I64 (D.sync f).1 := by
  apply i64_small
  unfold Dk.sync eDown eArg eLost eOK
  split
  · exact ⟨by simp, by simp⟩
  · simp only
    split
    · exact ⟨by simp, by simp⟩
    · split
      · exact ⟨by simp, by simp⟩
      · split <;> exact ⟨by simp, by simp⟩
theorem i64_err_write (D : Dk) (f a : Int) (s : List UInt8) : I64 (D.write f a s).1 := by
  apply i64_small
  unfold Dk.write eDown
  split
  · exact ⟨by simp, by simp⟩
  · simp only
    split
    · exact ⟨by simp, by simp⟩
    · unfold Dk.wr eArg eFull eOK
      split
      · exact ⟨by simp, by simp⟩
      · split
        · exact ⟨by simp, by simp⟩
        · split <;> exact ⟨by simp, by simp⟩

set_option maxHeartbeats 1000000 in
set_option maxRecDepth 100000 in
theorem o_jsync (h : OMem w0 w os) (hi : os[i]? = some (.disk d D)) (hk : os[k]? = some (.jour b d J)) (hne : i ≠ k) :
    Calls Tryd.prog 17 #[.pointer (some ⟨b, 0, none⟩)] w (JPost w0 os i k b d (jsync D J)) := by
  obtain ⟨v, hc⟩ := h.jour hk
  have c0 := hc.c0
  have c1 := hc.c1
  have c4 := hc.c4
  have hf := hc.file
  cases hb : J.bad with
  | true =>
    rw [hb] at c4
    have HR := Lib.hid (show jsync D J = (7, D, J) by unfold jsync; rw [hb]; rfl)
    have H := Lib.hid h
    clear h hc hb
    go_enter Tryd.func17, Tryd.ntmps17
    go_wp2
    go_ret
    unfold JPost
    rw [HR.out]
    refine ⟨rfl, ?_⟩
    simp only
    rw [set_noop hi, set_noop hk]
    exact H.out
  | false =>
    rw [hb] at c4
    have HR := Lib.hid (show jsync D J = ((D.sync J.file).1, (D.sync J.file).2, { J with bad := decide ((D.sync J.file).1 ≠ 0) }) by unfold jsync; rw [hb]; rfl)
    have hr := i64_err_sync D J.file
    have hX := o_sync (h.fresh (below_drew w)) hi J.file hf
    clear h hc hb
    generalize D.sync J.file = r at HR hr hX
    have HX := Lib.hid hX
    have HK := Lib.hid (set_get (a := Ob.disk d r.2) hk hne)
    have S0 : w.drew.cell? ⟨b, 0, none⟩ = some (.pointer (some ⟨d, 0, none⟩)) ∧ w.drew.cell? ⟨b, 1, none⟩ = some (.int .i64 J.file) := ⟨c0, c1⟩
    clear hX
    go_enter Tryd.func17, Tryd.ntmps17
    go_wp2
    go_region_held3 (fun w' => w'.cell? ⟨b, 0, none⟩ = some (.pointer (some ⟨d, 0, none⟩)) ∧ w'.cell? ⟨b, 1, none⟩ = some (.int .i64 J.file)) (first | exact S0 | assumption) (first | (go_at_call 34; refine HX.out.mono ?_; rintro e w2 ⟨rfl, m2⟩; have M2 := Lib.hid m2; have S2 := m2.two HK.out; clear m2) | (go_at_call 40; refine (note_any M2.out HK.out r.1 hr).mono ?_; rintro e w3 ⟨rfl, m3⟩; have M3 := Lib.hid m3; have S3 := m3.two (set_here HK.out); clear m3))
    go_wp2
    go_ret
    unfold JPost
    rw [HR.out]
    exact ⟨rfl, M3.out⟩
end
end Go.Proofs.YtjbcgahdiolhhaaDoor.D2
