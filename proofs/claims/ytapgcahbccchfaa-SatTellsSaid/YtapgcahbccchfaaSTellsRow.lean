/-
  The statement SatTells holds: called with any list of clauses, any number, any list of truth values and any list of numbers, the Go function returns true and changes nothing that was there.
  Conditions: none beyond the statement's own.
-/
import Derived.Test.YtapgcahbccchfaaCrow
import Derived.Test.YtapgcahbccchfaaSTells
import Derived.Test.YtapgcahbccchfaaSapi8
namespace Go.Proofs.Ytapgcahbccchfaa
open Go.ChangeShapes Go.WideShapes Go.ChangeAt Go.RowKit
open St

namespace tells
set_option maxRecDepth 100000 in
theorem lifted (os : Os) (started : os.Started) (H : Type) (enc : TypeId × Value → H) :
    ReturnsInHanded {} Try.checked os 3 .any (Rows.satTellsSpec.pre6 enc Try.prog Try.f3 [] false)
      (Rows.satTellsSpec.post enc Try.prog Try.f3 false true false false) := by
  refine returnsInHanded_of_change_sized (C := Try.checked) own started (by kernel_rfl) Try.func3
    (ChangeSpec.witness6 (enc := enc) (C := Try.checked) false ⟨#[], #[.slice none 0 0, .int .i64 0, .slice none 0 0, .slice none 0 0], []⟩ 8 (by kernel_rfl) (by kernel_rfl) (by kernel_rfl) (by kernel_rfl)) ?_
  intro W base args ds gs before hval0 hW _ _ _
  have hval : ∀ (j : Nat) t v, Try.f3.params[j]? = some t → args[j]? = some v → Value.okWide Try.prog W .any base t v := hval0
  have hW' := hW
  obtain ⟨p, q, hA0, hV, rfl, hfz, hnd⟩ := hW
  have hA : DataW.TrodAll enc Try.prog W 0 (fun _ => true) true Try.f3.params.toList args.toList ds p := hA0
  rw [Try.params3] at hA hval
  obtain ⟨v0, v1, v2, v3, d0, d1, d2, d3, p0, p1, p2, p3, rfl, rfl, rfl, h0, h1, h2, h3⟩ := trodAll_four hA
  obtain ⟨rfl, rfl⟩ := trodVars_none hV
  obtain ⟨l0, w0⟩ := clauses_open (hval 0 22 v0 rfl rfl) h0
  obtain ⟨k1, rfl, rfl, rfl, w1⟩ := open_int Try.underlying3 (hval 1 3 v1 rfl rfl) h1
  obtain ⟨l2, w2⟩ := bools_open (hval 2 23 v2 rfl rfl) h2
  obtain ⟨l3, w3⟩ := nums_open (hval 3 24 v3 rfl rfl) h3
  clear hA0 hval0
  simp only [List.append_assoc, List.nil_append] at hW'
  have hlt := DataW.Whole.lt hW'
  refine (tells_walk theApi w0 (i64_of w1) w2 w3).mono fun e W' ⟨he, hb⟩ => ?_
  subst he
  refine ⟨_, rfl, _, _, _, [], (p0 ++ ([] ++ (p2 ++ p3))), [], hW', ?_, ?_, rfl, hb.frame _, fun h => by cases h⟩
  · exact trodAll_mk1 (shut_bool Try.underlying4 _)
  · exact trodAll_mk4 (Below.trod laidOut rdC rowC h0 hb (fun z hz => hlt z (by simp [hz]))) (shut_int Try.underlying3 w1) (Below.trod laidOut rdB rowB h2 hb (fun z hz => hlt z (by simp [hz]))) (Below.trod laidOut rdI rowI h3 hb (fun z hz => hlt z (by simp [hz])))

theorem proved : Rows.SatTellsSaid :=
  OpenClaim.holds_of_wide 3 Try.f3 rfl rfl rfl rfl rfl rfl rfl ⟨rfl, rfl, rfl, rfl, rfl⟩ rfl rfl rfl rfl rfl (by kernel_rfl) Try.func3 (by kernel_rfl)
    (of_decide_eq_true (by kernel_rfl)) (by unfold Func.isWrapper; first | (rw [if_pos (by decide +kernel)]; kernel_rfl) | (rw [if_neg (by decide +kernel)]; exact ⟨rfl, rfl⟩))
    (fun os started H enc _ => lifted os started H enc)
#print axioms proved
end tells
end Go.Proofs.Ytapgcahbccchfaa
