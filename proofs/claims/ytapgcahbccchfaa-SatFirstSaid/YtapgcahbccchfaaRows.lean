/-
  No cell of these rows narrows 'for every input' (looked for: loops, veiled, ifaces, maps, wideKeys, modest, calm, conditions, laid).
  DERIVED. THE GIVEN ROWS OF THIS SEAT. 5 by the template 'for every input the law returns true; each argument reads behind the call as it read before'; 0 by the template 'total and deterministic' (their statements: YtapgcahbccchfaaTotals.lean).
  GIVEN WITH THE SEED: the statements are not yours to turn. If you find one false, say at which input.
  Laid BY PROGRAM, IN A SANDBOX (cutbox-rows.mjs): the forced cells as the released guide's own fill.sh prints them over the translation 5714f16b0a730669… (all of the seat's roots in one cut). By AI agents, Wed Nov 11 2026. No macro, syntax, notation, axiom, sorry.
-/
import Derived.Test.YtapgcahbccchfaaChecked
import GoSem.Claim
import GoSem.ClaimJoined
import GoSem.ClaimMapViews
import Derived.JoinedTies
import Derived.KernelRfl
namespace Go.Proofs.Ytapgcahbccchfaa
/- THE CELL 'sum', in the pinned program and in every row, IS THE sha256 OF THE DUMP (.gsa) THAT YtapgcahbccchfaaProg.lean LOADS. Nothing in Lean hashes anything: it is a label: what it is worth is what the hold of that sum in a sandbox is worth. -/
noncomputable def Try.pinned : Pinned := { name := "ytapgcahbccchfaa", sum := "5714f16b0a730669d1bcbf03110afa73133b9f7eadf60e52a330caf1653899aa", checked := Try.checked }
namespace Rows
def none {H : Type} : Left H := { results := [], args := [] }

/-- 'lingualaw08.SatTells': WHATEVER THE INPUT: true; the input reads as it did. -/
def satTellsSpec : ChangeSpec := { name := "satTells", fn := fun _ => fun
  | [d1, d2, d3, d4] => { results := [.lit (.bool true)], args := [d1, d2, d3, d4] }
  | _ => none }
def satTellsRow : OpenClaim := { program := "ytapgcahbccchfaa", sum := "5714f16b0a730669d1bcbf03110afa73133b9f7eadf60e52a330caf1653899aa", func := "lingua/lingualaw08.SatTells", spec := "satTells", unfollowed := true, recurses := true, apart := false }
def SatTellsSaid : Prop := satTellsRow.holds Try.pinned (OpenSpec.ofChange satTellsSpec)

/-- ITS FALSE NEIGHBOUR: 'it returns false'. Refute it at one input. -/
def satTellsWrong : ChangeSpec := { name := "satTells", fn := fun _ => fun
  | [d1, d2, d3, d4] => { results := [.lit (.bool false)], args := [d1, d2, d3, d4] }
  | _ => none }
def SatTellsWrongFalsely : Prop := satTellsRow.holds Try.pinned (OpenSpec.ofChange satTellsWrong)

/-- 'lingualaw08.SatDecides': WHATEVER THE INPUT: true; the input reads as it did. -/
def satDecidesSpec : ChangeSpec := { name := "satDecides", fn := fun _ => fun
  | [d1, d2, d3, d4] => { results := [.lit (.bool true)], args := [d1, d2, d3, d4] }
  | _ => none }
def satDecidesRow : OpenClaim := { program := "ytapgcahbccchfaa", sum := "5714f16b0a730669d1bcbf03110afa73133b9f7eadf60e52a330caf1653899aa", func := "lingua/lingualaw08.SatDecides", spec := "satDecides", unfollowed := true, recurses := true, apart := false }
def SatDecidesSaid : Prop := satDecidesRow.holds Try.pinned (OpenSpec.ofChange satDecidesSpec)

/-- ITS FALSE NEIGHBOUR: 'it returns false'. Refute it at one input. -/
def satDecidesWrong : ChangeSpec := { name := "satDecides", fn := fun _ => fun
  | [d1, d2, d3, d4] => { results := [.lit (.bool false)], args := [d1, d2, d3, d4] }
  | _ => none }
def SatDecidesWrongFalsely : Prop := satDecidesRow.holds Try.pinned (OpenSpec.ofChange satDecidesWrong)

/-- 'lingualaw08.SatFirst': WHATEVER THE INPUT: true; the input reads as it did. -/
def satFirstSpec : ChangeSpec := { name := "satFirst", fn := fun _ => fun
  | [d1, d2, d3] => { results := [.lit (.bool true)], args := [d1, d2, d3] }
  | _ => none }
def satFirstRow : OpenClaim := { program := "ytapgcahbccchfaa", sum := "5714f16b0a730669d1bcbf03110afa73133b9f7eadf60e52a330caf1653899aa", func := "lingua/lingualaw08.SatFirst", spec := "satFirst", unfollowed := true, recurses := true, apart := false }
def SatFirstSaid : Prop := satFirstRow.holds Try.pinned (OpenSpec.ofChange satFirstSpec)

/-- ITS FALSE NEIGHBOUR: 'it returns false'. Refute it at one input. -/
def satFirstWrong : ChangeSpec := { name := "satFirst", fn := fun _ => fun
  | [d1, d2, d3] => { results := [.lit (.bool false)], args := [d1, d2, d3] }
  | _ => none }
def SatFirstWrongFalsely : Prop := satFirstRow.holds Try.pinned (OpenSpec.ofChange satFirstWrong)

/-- 'lingualaw08.SatFollows': WHATEVER THE INPUT: true; the input reads as it did. -/
def satFollowsSpec : ChangeSpec := { name := "satFollows", fn := fun _ => fun
  | [d1, d2, d3, d4] => { results := [.lit (.bool true)], args := [d1, d2, d3, d4] }
  | _ => none }
def satFollowsRow : OpenClaim := { program := "ytapgcahbccchfaa", sum := "5714f16b0a730669d1bcbf03110afa73133b9f7eadf60e52a330caf1653899aa", func := "lingua/lingualaw08.SatFollows", spec := "satFollows", unfollowed := true, recurses := true, apart := false }
def SatFollowsSaid : Prop := satFollowsRow.holds Try.pinned (OpenSpec.ofChange satFollowsSpec)

/-- ITS FALSE NEIGHBOUR: 'it returns false'. Refute it at one input. -/
def satFollowsWrong : ChangeSpec := { name := "satFollows", fn := fun _ => fun
  | [d1, d2, d3, d4] => { results := [.lit (.bool false)], args := [d1, d2, d3, d4] }
  | _ => none }
def SatFollowsWrongFalsely : Prop := satFollowsRow.holds Try.pinned (OpenSpec.ofChange satFollowsWrong)

/-- 'lingualaw08.SatForced': WHATEVER THE INPUT: true; the input reads as it did. -/
def satForcedSpec : ChangeSpec := { name := "satForced", fn := fun _ => fun
  | [d1, d2] => { results := [.lit (.bool true)], args := [d1, d2] }
  | _ => none }
def satForcedRow : OpenClaim := { program := "ytapgcahbccchfaa", sum := "5714f16b0a730669d1bcbf03110afa73133b9f7eadf60e52a330caf1653899aa", func := "lingua/lingualaw08.SatForced", spec := "satForced", unfollowed := true, recurses := true, apart := false }
def SatForcedSaid : Prop := satForcedRow.holds Try.pinned (OpenSpec.ofChange satForcedSpec)

/-- ITS FALSE NEIGHBOUR: 'it returns false'. Refute it at one input. -/
def satForcedWrong : ChangeSpec := { name := "satForced", fn := fun _ => fun
  | [d1, d2] => { results := [.lit (.bool false)], args := [d1, d2] }
  | _ => none }
def SatForcedWrongFalsely : Prop := satForcedRow.holds Try.pinned (OpenSpec.ofChange satForcedWrong)

/- THE SECOND FORM. 'bulk': how many values and letters a reading holds, each counted each time it is reached (what is shared counts as often as it is met; a slice's spare places count too). A statement '..UptoSaid' is the law's where the arguments, and the package variables that the reading takes, are together of bulk at most 1048576: NARROWER than '..Said'. Prove '..Said' where nothing that the law and all that it calls make is longer than what came in: it says more and counts as full. Else prove '..UptoSaid'. A law counts once. -/
mutual
def uptoBulk {H : Type} : DataW H → Nat
  | .lit (.string bytes) => bytes.length + 1
  | .lit _ => 1
  | .nil => 1
  | .ptr d => uptoBulk d + 1
  | .slice elems spare => uptoBulkAll elems + uptoBulkAll spare + 1
  | .agg parts => uptoBulkAll parts + 1
  | .iface _ d => uptoBulk d + 1
  | .map entries => uptoBulkEntries entries + 1
  | .held _ => 1
def uptoBulkAll {H : Type} : List (DataW H) → Nat
  | [] => 0
  | d :: r => uptoBulk d + uptoBulkAll r
def uptoBulkEntries {H : Type} : List (Lit × DataW H) → Nat
  | [] => 0
  | x :: r => uptoBulkEntry x + uptoBulkEntries r
def uptoBulkEntry {H : Type} : Lit × DataW H → Nat
  | (.string bytes, d) => bytes.length + uptoBulk d + 1
  | (_, d) => uptoBulk d + 1
 end
def uptoSmall : (H : Type) → List (DataW H) → Bool := fun _ ds => decide (uptoBulkAll ds ≤ 1048576)
def OpenSpec.upto (s : _root_.Go.ChangeSpec) : _root_.Go.OpenSpec := { _root_.Go.OpenSpec.ofChange s with cond := some uptoSmall }

/-- 'lingualaw08.SatTells', WHERE WHAT IT READS IS OF BULK AT MOST 1048576: true; the input reads as it did. -/
def satTellsUptoRow : OpenClaim := { program := "ytapgcahbccchfaa", sum := "5714f16b0a730669d1bcbf03110afa73133b9f7eadf60e52a330caf1653899aa", func := "lingua/lingualaw08.SatTells", spec := "satTells", unfollowed := true, recurses := true, apart := false, narrowed := true }
def SatTellsUptoSaid : Prop := satTellsUptoRow.holds Try.pinned (OpenSpec.upto satTellsSpec)

/-- 'lingualaw08.SatDecides', WHERE WHAT IT READS IS OF BULK AT MOST 1048576: true; the input reads as it did. -/
def satDecidesUptoRow : OpenClaim := { program := "ytapgcahbccchfaa", sum := "5714f16b0a730669d1bcbf03110afa73133b9f7eadf60e52a330caf1653899aa", func := "lingua/lingualaw08.SatDecides", spec := "satDecides", unfollowed := true, recurses := true, apart := false, narrowed := true }
def SatDecidesUptoSaid : Prop := satDecidesUptoRow.holds Try.pinned (OpenSpec.upto satDecidesSpec)

/-- 'lingualaw08.SatFirst', WHERE WHAT IT READS IS OF BULK AT MOST 1048576: true; the input reads as it did. -/
def satFirstUptoRow : OpenClaim := { program := "ytapgcahbccchfaa", sum := "5714f16b0a730669d1bcbf03110afa73133b9f7eadf60e52a330caf1653899aa", func := "lingua/lingualaw08.SatFirst", spec := "satFirst", unfollowed := true, recurses := true, apart := false, narrowed := true }
def SatFirstUptoSaid : Prop := satFirstUptoRow.holds Try.pinned (OpenSpec.upto satFirstSpec)

/-- 'lingualaw08.SatFollows', WHERE WHAT IT READS IS OF BULK AT MOST 1048576: true; the input reads as it did. -/
def satFollowsUptoRow : OpenClaim := { program := "ytapgcahbccchfaa", sum := "5714f16b0a730669d1bcbf03110afa73133b9f7eadf60e52a330caf1653899aa", func := "lingua/lingualaw08.SatFollows", spec := "satFollows", unfollowed := true, recurses := true, apart := false, narrowed := true }
def SatFollowsUptoSaid : Prop := satFollowsUptoRow.holds Try.pinned (OpenSpec.upto satFollowsSpec)

/-- 'lingualaw08.SatForced', WHERE WHAT IT READS IS OF BULK AT MOST 1048576: true; the input reads as it did. -/
def satForcedUptoRow : OpenClaim := { program := "ytapgcahbccchfaa", sum := "5714f16b0a730669d1bcbf03110afa73133b9f7eadf60e52a330caf1653899aa", func := "lingua/lingualaw08.SatForced", spec := "satForced", unfollowed := true, recurses := true, apart := false, narrowed := true }
def SatForcedUptoSaid : Prop := satForcedUptoRow.holds Try.pinned (OpenSpec.upto satForcedSpec)

end Rows
end Go.Proofs.Ytapgcahbccchfaa
