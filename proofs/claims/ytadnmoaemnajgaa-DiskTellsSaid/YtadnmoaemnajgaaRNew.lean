/- The reference's New. -/
import Derived.Test.YtadnmoaemnajgaaROps5
namespace Go.Proofs.Ytadnmoaemnajgaa
open Go.RowKit Go.Maps Go.ChangeMaps Go.MapKept
open Dp
attribute [local go_sem ↓] Go.wp_at_zero Go.wp_at_succ
/-- A new block's label. -/
def labNew (w : World) (lab : Nat → Nat) (id : Nat) (x : Nat) : Nat := if x = w.heap.size then id else if w.heap.size ≤ x then 0 else lab x
theorem rnew_in (w : World) (lab : Nat → Nat) (id : Nat) (h64 : 64 ≤ id) :
    RIn (w.alloc (.cells #[.slice none 0 0, .slice none 0 0, .int .i64 0, .bool false, .int .i64 0, .slice none 0 0] 64)) (labNew w lab id) id w.heap.size Rf.new ⟨.slice none 0 0, .slice none 0 0, .slice none 0 0⟩ ∧
    Chg id lab (labNew w lab id) w (w.alloc (.cells #[.slice none 0 0, .slice none 0 0, .int .i64 0, .bool false, .int .i64 0, .slice none 0 0] 64)) := by
  have hb := below_alloc w (.cells #[.slice none 0 0, .slice none 0 0, .int .i64 0, .bool false, .int .i64 0, .slice none 0 0] 64)
  refine ⟨⟨⟨(by simp [Rf.new]), (by simp [Rf.new]), (by simp [Rf.new]), (by simp [Rf.new]), (by simp [Rf.new]), (by simp [Rf.new]), (by simp [Rf.new]), (by simp [Rf.new])⟩, fun x hx => ?_, h64, heap_alloc_new w _, World.ownsRow_nil _ _ _ _, World.ownsRow_nil _ _ _ _, World.ownsRow_nil _ _ _ _, by simp [labNew], (fun k hk => by cases hk), (fun k hk => by cases hk), (fun k hk => by cases hk)⟩,
    ⟨hb.os, hb.tape, hb.output, hb.size, fun x hx => ?_, fun x hx _ => hb.block x hx, fun x hx => ?_⟩⟩
  · simp only [World.size_alloc] at hx
    unfold labNew
    rw [if_neg (by omega), if_pos (by omega)]
  · unfold labNew
    rw [if_neg (by omega), if_neg (by omega)]
  · unfold labNew
    by_cases h : x = w.heap.size
    · rw [if_pos h]; exact .inr ⟨Nat.le_refl _, by omega⟩
    · rw [if_neg h, if_pos hx]; exact .inl rfl
set_option maxRecDepth 100000 in
theorem rnew_any (w : World) (lab : Nat → Nat) (id : Nat) (h64 : 64 ≤ id) :
    Calls Try.prog 11 #[] w fun e w' => e = .returned (.pointer (some ⟨w.heap.size, 0, none⟩)) ∧ RIn w' (labNew w lab id) id w.heap.size Rf.new ⟨.slice none 0 0, .slice none 0 0, .slice none 0 0⟩ ∧ Chg id lab (labNew w lab id) w w' := by
  have H := Lib.hid (rnew_in w lab id h64)
  go_enter Try.func11, Try.ntmps11
  go_wp2
  go_ret
  exact ⟨rfl, H.out⟩
end Go.Proofs.Ytadnmoaemnajgaa
