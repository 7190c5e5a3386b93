/-
  No cell of these rows narrows 'for every input' (looked for: loops, veiled, ifaces, maps, wideKeys, modest, calm, conditions, laid).
  DERIVED. THE GIVEN ROWS OF THIS SEAT. 6 by the template 'for every input the law returns true; each argument reads behind the call as it read before'; 0 by the template 'total and deterministic' (their statements: YtcklodmhlhjipabTotals.lean).
  GIVEN WITH THE SEED: the statements are not yours to turn. If you find one false, say at which input.
  Laid BY PROGRAM, IN A SANDBOX (cutbox-rows.mjs): the forced cells as the released guide's own fill.sh prints them over the translation a3296b9ee2d6dbea… (all of the seat's roots in one cut). By AI agents, Wed Nov 11 2026. No macro, syntax, notation, axiom, sorry.
-/
import Derived.Test.YtcklodmhlhjipabChecked
import GoSem.Claim
import GoSem.ClaimJoined
import GoSem.ClaimMapViews
import Derived.JoinedTies
import Derived.KernelRfl
namespace Go.Proofs.Ytcklodmhlhjipab
/- THE CELL 'sum', in the pinned program and in every row, IS THE sha256 OF THE DUMP (.gsa) THAT YtcklodmhlhjipabProg.lean LOADS. Nothing in Lean hashes anything: it is a label: what it is worth is what the hold of that sum in a sandbox is worth. -/
noncomputable def Try.pinned : Pinned := { name := "ytcklodmhlhjipab", sum := "a3296b9ee2d6dbeaef0684cc04f28f396666557a9fbe401390a8198a87c363f2", checked := Try.checked }
namespace Rows
def none {H : Type} : Left H := { results := [], args := [] }

/-- 'pianolalaw02.FracWorth': WHATEVER THE INPUT: true; the input reads as it did. -/
def fracWorthSpec : ChangeSpec := { name := "fracWorth", fn := fun _ => fun
  | [d1, d2, d3] => { results := [.lit (.bool true)], args := [d1, d2, d3] }
  | _ => none }
def fracWorthRow : OpenClaim := { program := "ytcklodmhlhjipab", sum := "a3296b9ee2d6dbeaef0684cc04f28f396666557a9fbe401390a8198a87c363f2", func := "pianola/pianolalaw02.FracWorth", spec := "fracWorth", unfollowed := true, recurses := true, apart := false }
def FracWorthSaid : Prop := fracWorthRow.holds Try.pinned (OpenSpec.ofChange fracWorthSpec)

/-- ITS FALSE NEIGHBOUR: 'it returns false'. Refute it at one input. -/
def fracWorthWrong : ChangeSpec := { name := "fracWorth", fn := fun _ => fun
  | [d1, d2, d3] => { results := [.lit (.bool false)], args := [d1, d2, d3] }
  | _ => none }
def FracWorthWrongFalsely : Prop := fracWorthRow.holds Try.pinned (OpenSpec.ofChange fracWorthWrong)

/-- 'pianolalaw02.FracExact': WHATEVER THE INPUT: true; the input reads as it did. -/
def fracExactSpec : ChangeSpec := { name := "fracExact", fn := fun _ => fun
  | [d] => { results := [.lit (.bool true)], args := [d] }
  | _ => none }
def fracExactRow : OpenClaim := { program := "ytcklodmhlhjipab", sum := "a3296b9ee2d6dbeaef0684cc04f28f396666557a9fbe401390a8198a87c363f2", func := "pianola/pianolalaw02.FracExact", spec := "fracExact", unfollowed := true, recurses := true, apart := false }
def FracExactSaid : Prop := fracExactRow.holds Try.pinned (OpenSpec.ofChange fracExactSpec)

/-- ITS FALSE NEIGHBOUR: 'it returns false'. Refute it at one input. -/
def fracExactWrong : ChangeSpec := { name := "fracExact", fn := fun _ => fun
  | [d] => { results := [.lit (.bool false)], args := [d] }
  | _ => none }
def FracExactWrongFalsely : Prop := fracExactRow.holds Try.pinned (OpenSpec.ofChange fracExactWrong)

/-- 'pianolalaw02.FracTurns': WHATEVER THE INPUT: true; the input reads as it did. -/
def fracTurnsSpec : ChangeSpec := { name := "fracTurns", fn := fun _ => fun
  | [d1, d2] => { results := [.lit (.bool true)], args := [d1, d2] }
  | _ => none }
def fracTurnsRow : OpenClaim := { program := "ytcklodmhlhjipab", sum := "a3296b9ee2d6dbeaef0684cc04f28f396666557a9fbe401390a8198a87c363f2", func := "pianola/pianolalaw02.FracTurns", spec := "fracTurns", unfollowed := true, recurses := true, apart := false }
def FracTurnsSaid : Prop := fracTurnsRow.holds Try.pinned (OpenSpec.ofChange fracTurnsSpec)

/-- ITS FALSE NEIGHBOUR: 'it returns false'. Refute it at one input. -/
def fracTurnsWrong : ChangeSpec := { name := "fracTurns", fn := fun _ => fun
  | [d1, d2] => { results := [.lit (.bool false)], args := [d1, d2] }
  | _ => none }
def FracTurnsWrongFalsely : Prop := fracTurnsRow.holds Try.pinned (OpenSpec.ofChange fracTurnsWrong)

/-- 'pianolalaw02.FracOrders': WHATEVER THE INPUT: true; the input reads as it did. -/
def fracOrdersSpec : ChangeSpec := { name := "fracOrders", fn := fun _ => fun
  | [d1, d2, d3] => { results := [.lit (.bool true)], args := [d1, d2, d3] }
  | _ => none }
def fracOrdersRow : OpenClaim := { program := "ytcklodmhlhjipab", sum := "a3296b9ee2d6dbeaef0684cc04f28f396666557a9fbe401390a8198a87c363f2", func := "pianola/pianolalaw02.FracOrders", spec := "fracOrders", unfollowed := true, recurses := true, apart := false }
def FracOrdersSaid : Prop := fracOrdersRow.holds Try.pinned (OpenSpec.ofChange fracOrdersSpec)

/-- ITS FALSE NEIGHBOUR: 'it returns false'. Refute it at one input. -/
def fracOrdersWrong : ChangeSpec := { name := "fracOrders", fn := fun _ => fun
  | [d1, d2, d3] => { results := [.lit (.bool false)], args := [d1, d2, d3] }
  | _ => none }
def FracOrdersWrongFalsely : Prop := fracOrdersRow.holds Try.pinned (OpenSpec.ofChange fracOrdersWrong)

/-- 'pianolalaw02.FracLeast': WHATEVER THE INPUT: true; the input reads as it did. -/
def fracLeastSpec : ChangeSpec := { name := "fracLeast", fn := fun _ => fun
  | [d1, d2] => { results := [.lit (.bool true)], args := [d1, d2] }
  | _ => none }
def fracLeastRow : OpenClaim := { program := "ytcklodmhlhjipab", sum := "a3296b9ee2d6dbeaef0684cc04f28f396666557a9fbe401390a8198a87c363f2", func := "pianola/pianolalaw02.FracLeast", spec := "fracLeast", unfollowed := true, recurses := true, apart := false }
def FracLeastSaid : Prop := fracLeastRow.holds Try.pinned (OpenSpec.ofChange fracLeastSpec)

/-- ITS FALSE NEIGHBOUR: 'it returns false'. Refute it at one input. -/
def fracLeastWrong : ChangeSpec := { name := "fracLeast", fn := fun _ => fun
  | [d1, d2] => { results := [.lit (.bool false)], args := [d1, d2] }
  | _ => none }
def FracLeastWrongFalsely : Prop := fracLeastRow.holds Try.pinned (OpenSpec.ofChange fracLeastWrong)

/-- 'pianolalaw02.FracNames': WHATEVER THE INPUT: true; the input reads as it did. -/
def fracNamesSpec : ChangeSpec := { name := "fracNames", fn := fun _ => fun
  | [] => { results := [.lit (.bool true)], args := [] }
  | _ => none }
def fracNamesRow : OpenClaim := { program := "ytcklodmhlhjipab", sum := "a3296b9ee2d6dbeaef0684cc04f28f396666557a9fbe401390a8198a87c363f2", func := "pianola/pianolalaw02.FracNames", spec := "fracNames", unfollowed := true, recurses := true, apart := false }
def FracNamesSaid : Prop := fracNamesRow.holds Try.pinned (OpenSpec.ofChange fracNamesSpec)

/-- ITS FALSE NEIGHBOUR: 'it returns false'. Refute it at one input. -/
def fracNamesWrong : ChangeSpec := { name := "fracNames", fn := fun _ => fun
  | [] => { results := [.lit (.bool false)], args := [] }
  | _ => none }
def FracNamesWrongFalsely : Prop := fracNamesRow.holds Try.pinned (OpenSpec.ofChange fracNamesWrong)

/- THE SECOND FORM. 'bulk': how many values and letters a reading holds, each counted each time it is reached (what is shared counts as often as it is met; a slice's spare places count too). A statement '..UptoSaid' is the law's where the arguments, and the package variables that the reading takes, are together of bulk at most 1048576: NARROWER than '..Said'. Prove '..Said' where nothing that the law and all that it calls make is longer than what came in: it says more and counts as full. Else prove '..UptoSaid'. A law counts once. -/
mutual
def uptoBulk {H : Type} : DataW H → Nat
  | .lit (.string bytes) => bytes.length + 1
  | .lit _ => 1
  | .nil => 1
  | .ptr d => uptoBulk d + 1
  | .slice elems spare => uptoBulkAll elems + uptoBulkAll spare + 1
  | .agg parts => uptoBulkAll parts + 1
  | .iface _ d => uptoBulk d + 1
  | .map entries => uptoBulkEntries entries + 1
  | .held _ => 1
def uptoBulkAll {H : Type} : List (DataW H) → Nat
  | [] => 0
  | d :: r => uptoBulk d + uptoBulkAll r
def uptoBulkEntries {H : Type} : List (Lit × DataW H) → Nat
  | [] => 0
  | x :: r => uptoBulkEntry x + uptoBulkEntries r
def uptoBulkEntry {H : Type} : Lit × DataW H → Nat
  | (.string bytes, d) => bytes.length + uptoBulk d + 1
  | (_, d) => uptoBulk d + 1
 end
def uptoSmall : (H : Type) → List (DataW H) → Bool := fun _ ds => decide (uptoBulkAll ds ≤ 1048576)
def OpenSpec.upto (s : _root_.Go.ChangeSpec) : _root_.Go.OpenSpec := { _root_.Go.OpenSpec.ofChange s with cond := some uptoSmall }

/-- 'pianolalaw02.FracWorth', WHERE WHAT IT READS IS OF BULK AT MOST 1048576: true; the input reads as it did. -/
def fracWorthUptoRow : OpenClaim := { program := "ytcklodmhlhjipab", sum := "a3296b9ee2d6dbeaef0684cc04f28f396666557a9fbe401390a8198a87c363f2", func := "pianola/pianolalaw02.FracWorth", spec := "fracWorth", unfollowed := true, recurses := true, apart := false, narrowed := true }
def FracWorthUptoSaid : Prop := fracWorthUptoRow.holds Try.pinned (OpenSpec.upto fracWorthSpec)

/-- 'pianolalaw02.FracExact', WHERE WHAT IT READS IS OF BULK AT MOST 1048576: true; the input reads as it did. -/
def fracExactUptoRow : OpenClaim := { program := "ytcklodmhlhjipab", sum := "a3296b9ee2d6dbeaef0684cc04f28f396666557a9fbe401390a8198a87c363f2", func := "pianola/pianolalaw02.FracExact", spec := "fracExact", unfollowed := true, recurses := true, apart := false, narrowed := true }
def FracExactUptoSaid : Prop := fracExactUptoRow.holds Try.pinned (OpenSpec.upto fracExactSpec)

/-- 'pianolalaw02.FracTurns', WHERE WHAT IT READS IS OF BULK AT MOST 1048576: true; the input reads as it did. -/
def fracTurnsUptoRow : OpenClaim := { program := "ytcklodmhlhjipab", sum := "a3296b9ee2d6dbeaef0684cc04f28f396666557a9fbe401390a8198a87c363f2", func := "pianola/pianolalaw02.FracTurns", spec := "fracTurns", unfollowed := true, recurses := true, apart := false, narrowed := true }
def FracTurnsUptoSaid : Prop := fracTurnsUptoRow.holds Try.pinned (OpenSpec.upto fracTurnsSpec)

/-- 'pianolalaw02.FracOrders', WHERE WHAT IT READS IS OF BULK AT MOST 1048576: true; the input reads as it did. -/
def fracOrdersUptoRow : OpenClaim := { program := "ytcklodmhlhjipab", sum := "a3296b9ee2d6dbeaef0684cc04f28f396666557a9fbe401390a8198a87c363f2", func := "pianola/pianolalaw02.FracOrders", spec := "fracOrders", unfollowed := true, recurses := true, apart := false, narrowed := true }
def FracOrdersUptoSaid : Prop := fracOrdersUptoRow.holds Try.pinned (OpenSpec.upto fracOrdersSpec)

/-- 'pianolalaw02.FracLeast', WHERE WHAT IT READS IS OF BULK AT MOST 1048576: true; the input reads as it did. -/
def fracLeastUptoRow : OpenClaim := { program := "ytcklodmhlhjipab", sum := "a3296b9ee2d6dbeaef0684cc04f28f396666557a9fbe401390a8198a87c363f2", func := "pianola/pianolalaw02.FracLeast", spec := "fracLeast", unfollowed := true, recurses := true, apart := false, narrowed := true }
def FracLeastUptoSaid : Prop := fracLeastUptoRow.holds Try.pinned (OpenSpec.upto fracLeastSpec)

/-- 'pianolalaw02.FracNames', WHERE WHAT IT READS IS OF BULK AT MOST 1048576: true; the input reads as it did. -/
def fracNamesUptoRow : OpenClaim := { program := "ytcklodmhlhjipab", sum := "a3296b9ee2d6dbeaef0684cc04f28f396666557a9fbe401390a8198a87c363f2", func := "pianola/pianolalaw02.FracNames", spec := "fracNames", unfollowed := true, recurses := true, apart := false, narrowed := true }
def FracNamesUptoSaid : Prop := fracNamesUptoRow.holds Try.pinned (OpenSpec.upto fracNamesSpec)

end Rows
end Go.Proofs.Ytcklodmhlhjipab
