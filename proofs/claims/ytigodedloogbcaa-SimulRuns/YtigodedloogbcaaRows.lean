/-
  No cell of these rows narrows 'for every input' (looked for: loops, veiled, ifaces, maps, wideKeys, modest, calm, conditions, laid).
  DERIVED. THE GIVEN ROWS OF THIS SEAT. 2 by the template 'for every input the law returns true; each argument reads behind the call as it read before'; 0 by the template 'total and deterministic' (their statements: YtigodedloogbcaaTotals.lean).
  GIVEN WITH THE SEED: the statements are not yours to turn. If you find one false, say at which input.
  Laid BY PROGRAM, IN A SANDBOX (cutbox-rows.mjs): the forced cells as the released guide's own fill.sh prints them over the translation 71e0be3d0ff12eb3… (all of the seat's roots in one cut). By AI agents, Wed Nov 11 2026. No macro, syntax, notation, axiom, sorry.
-/
import Derived.Test.YtigodedloogbcaaChecked
import GoSem.Claim
import GoSem.ClaimJoined
import GoSem.ClaimMapViews
import Derived.JoinedTies
import Derived.KernelRfl
namespace Go.Proofs.Ytigodedloogbcaa
/- THE CELL 'sum', in the pinned program and in every row, IS THE sha256 OF THE DUMP (.gsa) THAT YtigodedloogbcaaProg.lean LOADS. Nothing in Lean hashes anything: it is a label: what it is worth is what the hold of that sum in a sandbox is worth. -/
noncomputable def Try.pinned : Pinned := { name := "ytigodedloogbcaa", sum := "71e0be3d0ff12eb32e78a9e36db97b895ec6833072c73a546f1e3e3ab53bc6c2", checked := Try.checked }
namespace Rows
def none {H : Type} : Left H := { results := [], args := [] }

/-- 'pianolalaw15.SimulRuns': WHATEVER THE INPUT: true; the input reads as it did. -/
def simulRunsSpec : ChangeSpec := { name := "simulRuns", fn := fun _ => fun
  | [d1, d2, d3] => { results := [.lit (.bool true)], args := [d1, d2, d3] }
  | _ => none }
def simulRunsRow : OpenClaim := { program := "ytigodedloogbcaa", sum := "71e0be3d0ff12eb32e78a9e36db97b895ec6833072c73a546f1e3e3ab53bc6c2", func := "pianola/pianolalaw15.SimulRuns", spec := "simulRuns", unfollowed := true, recurses := true, apart := false }
def SimulRunsSaid : Prop := simulRunsRow.holds Try.pinned (OpenSpec.ofChange simulRunsSpec)

/-- ITS FALSE NEIGHBOUR: 'it returns false'. Refute it at one input. -/
def simulRunsWrong : ChangeSpec := { name := "simulRuns", fn := fun _ => fun
  | [d1, d2, d3] => { results := [.lit (.bool false)], args := [d1, d2, d3] }
  | _ => none }
def SimulRunsWrongFalsely : Prop := simulRunsRow.holds Try.pinned (OpenSpec.ofChange simulRunsWrong)

/-- 'pianolalaw15.SimulTimes': WHATEVER THE INPUT: true; the input reads as it did. -/
def simulTimesSpec : ChangeSpec := { name := "simulTimes", fn := fun _ => fun
  | [d1, d2] => { results := [.lit (.bool true)], args := [d1, d2] }
  | _ => none }
def simulTimesRow : OpenClaim := { program := "ytigodedloogbcaa", sum := "71e0be3d0ff12eb32e78a9e36db97b895ec6833072c73a546f1e3e3ab53bc6c2", func := "pianola/pianolalaw15.SimulTimes", spec := "simulTimes", unfollowed := true, recurses := true, apart := false }
def SimulTimesSaid : Prop := simulTimesRow.holds Try.pinned (OpenSpec.ofChange simulTimesSpec)

/-- ITS FALSE NEIGHBOUR: 'it returns false'. Refute it at one input. -/
def simulTimesWrong : ChangeSpec := { name := "simulTimes", fn := fun _ => fun
  | [d1, d2] => { results := [.lit (.bool false)], args := [d1, d2] }
  | _ => none }
def SimulTimesWrongFalsely : Prop := simulTimesRow.holds Try.pinned (OpenSpec.ofChange simulTimesWrong)

/- THE SECOND FORM. 'bulk': how many values and letters a reading holds, each counted each time it is reached (what is shared counts as often as it is met; a slice's spare places count too). A statement '..UptoSaid' is the law's where the arguments, and the package variables that the reading takes, are together of bulk at most 1048576: NARROWER than '..Said'. Prove '..Said' where nothing that the law and all that it calls make is longer than what came in: it says more and counts as full. Else prove '..UptoSaid'. A law counts once. -/
mutual
def uptoBulk {H : Type} : DataW H → Nat
  | .lit (.string bytes) => bytes.length + 1
  | .lit _ => 1
  | .nil => 1
  | .ptr d => uptoBulk d + 1
  | .slice elems spare => uptoBulkAll elems + uptoBulkAll spare + 1
  | .agg parts => uptoBulkAll parts + 1
  | .iface _ d => uptoBulk d + 1
  | .map entries => uptoBulkEntries entries + 1
  | .held _ => 1
def uptoBulkAll {H : Type} : List (DataW H) → Nat
  | [] => 0
  | d :: r => uptoBulk d + uptoBulkAll r
def uptoBulkEntries {H : Type} : List (Lit × DataW H) → Nat
  | [] => 0
  | x :: r => uptoBulkEntry x + uptoBulkEntries r
def uptoBulkEntry {H : Type} : Lit × DataW H → Nat
  | (.string bytes, d) => bytes.length + uptoBulk d + 1
  | (_, d) => uptoBulk d + 1
 end
def uptoSmall : (H : Type) → List (DataW H) → Bool := fun _ ds => decide (uptoBulkAll ds ≤ 1048576)
def OpenSpec.upto (s : _root_.Go.ChangeSpec) : _root_.Go.OpenSpec := { _root_.Go.OpenSpec.ofChange s with cond := some uptoSmall }

/-- 'pianolalaw15.SimulRuns', WHERE WHAT IT READS IS OF BULK AT MOST 1048576: true; the input reads as it did. -/
def simulRunsUptoRow : OpenClaim := { program := "ytigodedloogbcaa", sum := "71e0be3d0ff12eb32e78a9e36db97b895ec6833072c73a546f1e3e3ab53bc6c2", func := "pianola/pianolalaw15.SimulRuns", spec := "simulRuns", unfollowed := true, recurses := true, apart := false, narrowed := true }
def SimulRunsUptoSaid : Prop := simulRunsUptoRow.holds Try.pinned (OpenSpec.upto simulRunsSpec)

/-- 'pianolalaw15.SimulTimes', WHERE WHAT IT READS IS OF BULK AT MOST 1048576: true; the input reads as it did. -/
def simulTimesUptoRow : OpenClaim := { program := "ytigodedloogbcaa", sum := "71e0be3d0ff12eb32e78a9e36db97b895ec6833072c73a546f1e3e3ab53bc6c2", func := "pianola/pianolalaw15.SimulTimes", spec := "simulTimes", unfollowed := true, recurses := true, apart := false, narrowed := true }
def SimulTimesUptoSaid : Prop := simulTimesUptoRow.holds Try.pinned (OpenSpec.upto simulTimesSpec)

end Rows
end Go.Proofs.Ytigodedloogbcaa
