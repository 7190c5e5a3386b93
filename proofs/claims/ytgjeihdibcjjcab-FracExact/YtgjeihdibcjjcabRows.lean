/-
  No cell of these rows narrows 'for every input' (looked for: loops, veiled, ifaces, maps, wideKeys, modest, calm, conditions, laid).
  DERIVED. THE GIVEN ROWS OF THIS SEAT. 4 by the template 'for every input the law returns true; each argument reads behind the call as it read before'; 0 by the template 'total and deterministic' (their statements: YtgjeihdibcjjcabTotals.lean).
  GIVEN WITH THE SEED: the statements are not yours to turn. If you find one false, say at which input.
  Laid BY PROGRAM, IN A SANDBOX (cutbox-rows.mjs): the forced cells as the released guide's own fill.sh prints them over the translation a12690f33494c6e9… (all of the seat's roots in one cut). By AI agents, Wed Nov 11 2026. No macro, syntax, notation, axiom, sorry.
-/
import Derived.Test.YtgjeihdibcjjcabChecked
import GoSem.Claim
import GoSem.ClaimJoined
import GoSem.ClaimMapViews
import Derived.JoinedTies
import Derived.KernelRfl
namespace Go.Proofs.Ytgjeihdibcjjcab
/- THE CELL 'sum', in the pinned program and in every row, IS THE sha256 OF THE DUMP (.gsa) THAT YtgjeihdibcjjcabProg.lean LOADS. Nothing in Lean hashes anything: it is a label: what it is worth is what the hold of that sum in a sandbox is worth. -/
noncomputable def Try.pinned : Pinned := { name := "ytgjeihdibcjjcab", sum := "a12690f33494c6e9e73f88414858f934bfa88d2c7fe624d7da0f3d3dcb642ffb", checked := Try.checked }
namespace Rows
def none {H : Type} : Left H := { results := [], args := [] }

/-- 'pianolalaw03.CancelExact': WHATEVER THE INPUT: true; the input reads as it did. -/
def cancelExactSpec : ChangeSpec := { name := "cancelExact", fn := fun _ => fun
  | [d1, d2] => { results := [.lit (.bool true)], args := [d1, d2] }
  | _ => none }
def cancelExactRow : OpenClaim := { program := "ytgjeihdibcjjcab", sum := "a12690f33494c6e9e73f88414858f934bfa88d2c7fe624d7da0f3d3dcb642ffb", func := "pianola/pianolalaw03.CancelExact", spec := "cancelExact", unfollowed := true, recurses := true, apart := false }
def CancelExactSaid : Prop := cancelExactRow.holds Try.pinned (OpenSpec.ofChange cancelExactSpec)

/-- ITS FALSE NEIGHBOUR: 'it returns false'. Refute it at one input. -/
def cancelExactWrong : ChangeSpec := { name := "cancelExact", fn := fun _ => fun
  | [d1, d2] => { results := [.lit (.bool false)], args := [d1, d2] }
  | _ => none }
def CancelExactWrongFalsely : Prop := cancelExactRow.holds Try.pinned (OpenSpec.ofChange cancelExactWrong)

/-- 'pianolalaw03.CancelNames': WHATEVER THE INPUT: true; the input reads as it did. -/
def cancelNamesSpec : ChangeSpec := { name := "cancelNames", fn := fun _ => fun
  | [] => { results := [.lit (.bool true)], args := [] }
  | _ => none }
def cancelNamesRow : OpenClaim := { program := "ytgjeihdibcjjcab", sum := "a12690f33494c6e9e73f88414858f934bfa88d2c7fe624d7da0f3d3dcb642ffb", func := "pianola/pianolalaw03.CancelNames", spec := "cancelNames", unfollowed := true, recurses := true, apart := false }
def CancelNamesSaid : Prop := cancelNamesRow.holds Try.pinned (OpenSpec.ofChange cancelNamesSpec)

/-- ITS FALSE NEIGHBOUR: 'it returns false'. Refute it at one input. -/
def cancelNamesWrong : ChangeSpec := { name := "cancelNames", fn := fun _ => fun
  | [] => { results := [.lit (.bool false)], args := [] }
  | _ => none }
def CancelNamesWrongFalsely : Prop := cancelNamesRow.holds Try.pinned (OpenSpec.ofChange cancelNamesWrong)

/-- 'pianolalaw02.FracScales': WHATEVER THE INPUT: true; the input reads as it did. -/
def fracScalesSpec : ChangeSpec := { name := "fracScales", fn := fun _ => fun
  | [d] => { results := [.lit (.bool true)], args := [d] }
  | _ => none }
def fracScalesRow : OpenClaim := { program := "ytgjeihdibcjjcab", sum := "a12690f33494c6e9e73f88414858f934bfa88d2c7fe624d7da0f3d3dcb642ffb", func := "pianola/pianolalaw02.FracScales", spec := "fracScales", unfollowed := true, recurses := true, apart := false }
def FracScalesSaid : Prop := fracScalesRow.holds Try.pinned (OpenSpec.ofChange fracScalesSpec)

/-- ITS FALSE NEIGHBOUR: 'it returns false'. Refute it at one input. -/
def fracScalesWrong : ChangeSpec := { name := "fracScales", fn := fun _ => fun
  | [d] => { results := [.lit (.bool false)], args := [d] }
  | _ => none }
def FracScalesWrongFalsely : Prop := fracScalesRow.holds Try.pinned (OpenSpec.ofChange fracScalesWrong)

/-- 'pianolalaw02.FracExact': WHATEVER THE INPUT: true; the input reads as it did. -/
def fracExactSpec : ChangeSpec := { name := "fracExact", fn := fun _ => fun
  | [d] => { results := [.lit (.bool true)], args := [d] }
  | _ => none }
def fracExactRow : OpenClaim := { program := "ytgjeihdibcjjcab", sum := "a12690f33494c6e9e73f88414858f934bfa88d2c7fe624d7da0f3d3dcb642ffb", func := "pianola/pianolalaw02.FracExact", spec := "fracExact", unfollowed := true, recurses := true, apart := false }
def FracExactSaid : Prop := fracExactRow.holds Try.pinned (OpenSpec.ofChange fracExactSpec)

/-- ITS FALSE NEIGHBOUR: 'it returns false'. Refute it at one input. -/
def fracExactWrong : ChangeSpec := { name := "fracExact", fn := fun _ => fun
  | [d] => { results := [.lit (.bool false)], args := [d] }
  | _ => none }
def FracExactWrongFalsely : Prop := fracExactRow.holds Try.pinned (OpenSpec.ofChange fracExactWrong)

/- THE SECOND FORM. 'bulk': how many values and letters a reading holds, each counted each time it is reached (what is shared counts as often as it is met; a slice's spare places count too). A statement '..UptoSaid' is the law's where the arguments, and the package variables that the reading takes, are together of bulk at most 1048576: NARROWER than '..Said'. Prove '..Said' where nothing that the law and all that it calls make is longer than what came in: it says more and counts as full. Else prove '..UptoSaid'. A law counts once. -/
mutual
def uptoBulk {H : Type} : DataW H → Nat
  | .lit (.string bytes) => bytes.length + 1
  | .lit _ => 1
  | .nil => 1
  | .ptr d => uptoBulk d + 1
  | .slice elems spare => uptoBulkAll elems + uptoBulkAll spare + 1
  | .agg parts => uptoBulkAll parts + 1
  | .iface _ d => uptoBulk d + 1
  | .map entries => uptoBulkEntries entries + 1
  | .held _ => 1
def uptoBulkAll {H : Type} : List (DataW H) → Nat
  | [] => 0
  | d :: r => uptoBulk d + uptoBulkAll r
def uptoBulkEntries {H : Type} : List (Lit × DataW H) → Nat
  | [] => 0
  | x :: r => uptoBulkEntry x + uptoBulkEntries r
def uptoBulkEntry {H : Type} : Lit × DataW H → Nat
  | (.string bytes, d) => bytes.length + uptoBulk d + 1
  | (_, d) => uptoBulk d + 1
 end
def uptoSmall : (H : Type) → List (DataW H) → Bool := fun _ ds => decide (uptoBulkAll ds ≤ 1048576)
def OpenSpec.upto (s : _root_.Go.ChangeSpec) : _root_.Go.OpenSpec := { _root_.Go.OpenSpec.ofChange s with cond := some uptoSmall }

/-- 'pianolalaw03.CancelExact', WHERE WHAT IT READS IS OF BULK AT MOST 1048576: true; the input reads as it did. -/
def cancelExactUptoRow : OpenClaim := { program := "ytgjeihdibcjjcab", sum := "a12690f33494c6e9e73f88414858f934bfa88d2c7fe624d7da0f3d3dcb642ffb", func := "pianola/pianolalaw03.CancelExact", spec := "cancelExact", unfollowed := true, recurses := true, apart := false, narrowed := true }
def CancelExactUptoSaid : Prop := cancelExactUptoRow.holds Try.pinned (OpenSpec.upto cancelExactSpec)

/-- 'pianolalaw03.CancelNames', WHERE WHAT IT READS IS OF BULK AT MOST 1048576: true; the input reads as it did. -/
def cancelNamesUptoRow : OpenClaim := { program := "ytgjeihdibcjjcab", sum := "a12690f33494c6e9e73f88414858f934bfa88d2c7fe624d7da0f3d3dcb642ffb", func := "pianola/pianolalaw03.CancelNames", spec := "cancelNames", unfollowed := true, recurses := true, apart := false, narrowed := true }
def CancelNamesUptoSaid : Prop := cancelNamesUptoRow.holds Try.pinned (OpenSpec.upto cancelNamesSpec)

/-- 'pianolalaw02.FracScales', WHERE WHAT IT READS IS OF BULK AT MOST 1048576: true; the input reads as it did. -/
def fracScalesUptoRow : OpenClaim := { program := "ytgjeihdibcjjcab", sum := "a12690f33494c6e9e73f88414858f934bfa88d2c7fe624d7da0f3d3dcb642ffb", func := "pianola/pianolalaw02.FracScales", spec := "fracScales", unfollowed := true, recurses := true, apart := false, narrowed := true }
def FracScalesUptoSaid : Prop := fracScalesUptoRow.holds Try.pinned (OpenSpec.upto fracScalesSpec)

/-- 'pianolalaw02.FracExact', WHERE WHAT IT READS IS OF BULK AT MOST 1048576: true; the input reads as it did. -/
def fracExactUptoRow : OpenClaim := { program := "ytgjeihdibcjjcab", sum := "a12690f33494c6e9e73f88414858f934bfa88d2c7fe624d7da0f3d3dcb642ffb", func := "pianola/pianolalaw02.FracExact", spec := "fracExact", unfollowed := true, recurses := true, apart := false, narrowed := true }
def FracExactUptoSaid : Prop := fracExactUptoRow.holds Try.pinned (OpenSpec.upto fracExactSpec)

end Rows
end Go.Proofs.Ytgjeihdibcjjcab
