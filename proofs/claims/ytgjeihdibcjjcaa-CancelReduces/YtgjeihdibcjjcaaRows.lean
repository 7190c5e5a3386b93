/-
  No cell of these rows narrows 'for every input' (looked for: loops, veiled, ifaces, maps, wideKeys, modest, calm, conditions, laid).
  DERIVED. THE GIVEN ROWS OF THIS SEAT. 6 by the template 'for every input the law returns true; each argument reads behind the call as it read before'; 0 by the template 'total and deterministic' (their statements: YtgjeihdibcjjcaaTotals.lean).
  GIVEN WITH THE SEED: the statements are not yours to turn. If you find one false, say at which input.
  Laid BY PROGRAM, IN A SANDBOX (cutbox-rows.mjs): the forced cells as the released guide's own fill.sh prints them over the translation 03c9c60fea188214… (all of the seat's roots in one cut). By AI agents, Wed Nov 11 2026. No macro, syntax, notation, axiom, sorry.
-/
import Derived.Test.YtgjeihdibcjjcaaChecked
import GoSem.Claim
import GoSem.ClaimJoined
import GoSem.ClaimMapViews
import Derived.JoinedTies
import Derived.KernelRfl
namespace Go.Proofs.Ytgjeihdibcjjcaa
/- THE CELL 'sum', in the pinned program and in every row, IS THE sha256 OF THE DUMP (.gsa) THAT YtgjeihdibcjjcaaProg.lean LOADS. Nothing in Lean hashes anything: it is a label: what it is worth is what the hold of that sum in a sandbox is worth. -/
noncomputable def Try.pinned : Pinned := { name := "ytgjeihdibcjjcaa", sum := "03c9c60fea188214e6ed37768717d6bf2a95379e86a5d7917a38344e4123bbbd", checked := Try.checked }
namespace Rows
def none {H : Type} : Left H := { results := [], args := [] }

/-- 'pianolalaw03.CancelReduces': WHATEVER THE INPUT: true; the input reads as it did. -/
def cancelReducesSpec : ChangeSpec := { name := "cancelReduces", fn := fun _ => fun
  | [d1, d2] => { results := [.lit (.bool true)], args := [d1, d2] }
  | _ => none }
def cancelReducesRow : OpenClaim := { program := "ytgjeihdibcjjcaa", sum := "03c9c60fea188214e6ed37768717d6bf2a95379e86a5d7917a38344e4123bbbd", func := "pianola/pianolalaw03.CancelReduces", spec := "cancelReduces", unfollowed := true, recurses := true, apart := false }
def CancelReducesSaid : Prop := cancelReducesRow.holds Try.pinned (OpenSpec.ofChange cancelReducesSpec)

/-- ITS FALSE NEIGHBOUR: 'it returns false'. Refute it at one input. -/
def cancelReducesWrong : ChangeSpec := { name := "cancelReduces", fn := fun _ => fun
  | [d1, d2] => { results := [.lit (.bool false)], args := [d1, d2] }
  | _ => none }
def CancelReducesWrongFalsely : Prop := cancelReducesRow.holds Try.pinned (OpenSpec.ofChange cancelReducesWrong)

/-- 'pianolalaw03.CancelEquals': WHATEVER THE INPUT: true; the input reads as it did. -/
def cancelEqualsSpec : ChangeSpec := { name := "cancelEquals", fn := fun _ => fun
  | [d1, d2] => { results := [.lit (.bool true)], args := [d1, d2] }
  | _ => none }
def cancelEqualsRow : OpenClaim := { program := "ytgjeihdibcjjcaa", sum := "03c9c60fea188214e6ed37768717d6bf2a95379e86a5d7917a38344e4123bbbd", func := "pianola/pianolalaw03.CancelEquals", spec := "cancelEquals", unfollowed := true, recurses := true, apart := false }
def CancelEqualsSaid : Prop := cancelEqualsRow.holds Try.pinned (OpenSpec.ofChange cancelEqualsSpec)

/-- ITS FALSE NEIGHBOUR: 'it returns false'. Refute it at one input. -/
def cancelEqualsWrong : ChangeSpec := { name := "cancelEquals", fn := fun _ => fun
  | [d1, d2] => { results := [.lit (.bool false)], args := [d1, d2] }
  | _ => none }
def CancelEqualsWrongFalsely : Prop := cancelEqualsRow.holds Try.pinned (OpenSpec.ofChange cancelEqualsWrong)

/-- 'pianolalaw03.CancelRatios': WHATEVER THE INPUT: true; the input reads as it did. -/
def cancelRatiosSpec : ChangeSpec := { name := "cancelRatios", fn := fun _ => fun
  | [d1, d2] => { results := [.lit (.bool true)], args := [d1, d2] }
  | _ => none }
def cancelRatiosRow : OpenClaim := { program := "ytgjeihdibcjjcaa", sum := "03c9c60fea188214e6ed37768717d6bf2a95379e86a5d7917a38344e4123bbbd", func := "pianola/pianolalaw03.CancelRatios", spec := "cancelRatios", unfollowed := true, recurses := true, apart := false }
def CancelRatiosSaid : Prop := cancelRatiosRow.holds Try.pinned (OpenSpec.ofChange cancelRatiosSpec)

/-- ITS FALSE NEIGHBOUR: 'it returns false'. Refute it at one input. -/
def cancelRatiosWrong : ChangeSpec := { name := "cancelRatios", fn := fun _ => fun
  | [d1, d2] => { results := [.lit (.bool false)], args := [d1, d2] }
  | _ => none }
def CancelRatiosWrongFalsely : Prop := cancelRatiosRow.holds Try.pinned (OpenSpec.ofChange cancelRatiosWrong)

/-- 'pianolalaw03.CancelCoprime': WHATEVER THE INPUT: true; the input reads as it did. -/
def cancelCoprimeSpec : ChangeSpec := { name := "cancelCoprime", fn := fun _ => fun
  | [d1, d2] => { results := [.lit (.bool true)], args := [d1, d2] }
  | _ => none }
def cancelCoprimeRow : OpenClaim := { program := "ytgjeihdibcjjcaa", sum := "03c9c60fea188214e6ed37768717d6bf2a95379e86a5d7917a38344e4123bbbd", func := "pianola/pianolalaw03.CancelCoprime", spec := "cancelCoprime", unfollowed := true, recurses := true, apart := false }
def CancelCoprimeSaid : Prop := cancelCoprimeRow.holds Try.pinned (OpenSpec.ofChange cancelCoprimeSpec)

/-- ITS FALSE NEIGHBOUR: 'it returns false'. Refute it at one input. -/
def cancelCoprimeWrong : ChangeSpec := { name := "cancelCoprime", fn := fun _ => fun
  | [d1, d2] => { results := [.lit (.bool false)], args := [d1, d2] }
  | _ => none }
def CancelCoprimeWrongFalsely : Prop := cancelCoprimeRow.holds Try.pinned (OpenSpec.ofChange cancelCoprimeWrong)

/-- 'pianolalaw03.CancelTurns': WHATEVER THE INPUT: true; the input reads as it did. -/
def cancelTurnsSpec : ChangeSpec := { name := "cancelTurns", fn := fun _ => fun
  | [d1, d2] => { results := [.lit (.bool true)], args := [d1, d2] }
  | _ => none }
def cancelTurnsRow : OpenClaim := { program := "ytgjeihdibcjjcaa", sum := "03c9c60fea188214e6ed37768717d6bf2a95379e86a5d7917a38344e4123bbbd", func := "pianola/pianolalaw03.CancelTurns", spec := "cancelTurns", unfollowed := true, recurses := true, apart := false }
def CancelTurnsSaid : Prop := cancelTurnsRow.holds Try.pinned (OpenSpec.ofChange cancelTurnsSpec)

/-- ITS FALSE NEIGHBOUR: 'it returns false'. Refute it at one input. -/
def cancelTurnsWrong : ChangeSpec := { name := "cancelTurns", fn := fun _ => fun
  | [d1, d2] => { results := [.lit (.bool false)], args := [d1, d2] }
  | _ => none }
def CancelTurnsWrongFalsely : Prop := cancelTurnsRow.holds Try.pinned (OpenSpec.ofChange cancelTurnsWrong)

/-- 'pianolalaw03.CancelOrder': WHATEVER THE INPUT: true; the input reads as it did. -/
def cancelOrderSpec : ChangeSpec := { name := "cancelOrder", fn := fun _ => fun
  | [d1, d2, d3] => { results := [.lit (.bool true)], args := [d1, d2, d3] }
  | _ => none }
def cancelOrderRow : OpenClaim := { program := "ytgjeihdibcjjcaa", sum := "03c9c60fea188214e6ed37768717d6bf2a95379e86a5d7917a38344e4123bbbd", func := "pianola/pianolalaw03.CancelOrder", spec := "cancelOrder", unfollowed := true, recurses := true, apart := false }
def CancelOrderSaid : Prop := cancelOrderRow.holds Try.pinned (OpenSpec.ofChange cancelOrderSpec)

/-- ITS FALSE NEIGHBOUR: 'it returns false'. Refute it at one input. -/
def cancelOrderWrong : ChangeSpec := { name := "cancelOrder", fn := fun _ => fun
  | [d1, d2, d3] => { results := [.lit (.bool false)], args := [d1, d2, d3] }
  | _ => none }
def CancelOrderWrongFalsely : Prop := cancelOrderRow.holds Try.pinned (OpenSpec.ofChange cancelOrderWrong)

/- THE SECOND FORM. 'bulk': how many values and letters a reading holds, each counted each time it is reached (what is shared counts as often as it is met; a slice's spare places count too). A statement '..UptoSaid' is the law's where the arguments, and the package variables that the reading takes, are together of bulk at most 1048576: NARROWER than '..Said'. Prove '..Said' where nothing that the law and all that it calls make is longer than what came in: it says more and counts as full. Else prove '..UptoSaid'. A law counts once. -/
mutual
def uptoBulk {H : Type} : DataW H → Nat
  | .lit (.string bytes) => bytes.length + 1
  | .lit _ => 1
  | .nil => 1
  | .ptr d => uptoBulk d + 1
  | .slice elems spare => uptoBulkAll elems + uptoBulkAll spare + 1
  | .agg parts => uptoBulkAll parts + 1
  | .iface _ d => uptoBulk d + 1
  | .map entries => uptoBulkEntries entries + 1
  | .held _ => 1
def uptoBulkAll {H : Type} : List (DataW H) → Nat
  | [] => 0
  | d :: r => uptoBulk d + uptoBulkAll r
def uptoBulkEntries {H : Type} : List (Lit × DataW H) → Nat
  | [] => 0
  | x :: r => uptoBulkEntry x + uptoBulkEntries r
def uptoBulkEntry {H : Type} : Lit × DataW H → Nat
  | (.string bytes, d) => bytes.length + uptoBulk d + 1
  | (_, d) => uptoBulk d + 1
 end
def uptoSmall : (H : Type) → List (DataW H) → Bool := fun _ ds => decide (uptoBulkAll ds ≤ 1048576)
def OpenSpec.upto (s : _root_.Go.ChangeSpec) : _root_.Go.OpenSpec := { _root_.Go.OpenSpec.ofChange s with cond := some uptoSmall }

/-- 'pianolalaw03.CancelReduces', WHERE WHAT IT READS IS OF BULK AT MOST 1048576: true; the input reads as it did. -/
def cancelReducesUptoRow : OpenClaim := { program := "ytgjeihdibcjjcaa", sum := "03c9c60fea188214e6ed37768717d6bf2a95379e86a5d7917a38344e4123bbbd", func := "pianola/pianolalaw03.CancelReduces", spec := "cancelReduces", unfollowed := true, recurses := true, apart := false, narrowed := true }
def CancelReducesUptoSaid : Prop := cancelReducesUptoRow.holds Try.pinned (OpenSpec.upto cancelReducesSpec)

/-- 'pianolalaw03.CancelEquals', WHERE WHAT IT READS IS OF BULK AT MOST 1048576: true; the input reads as it did. -/
def cancelEqualsUptoRow : OpenClaim := { program := "ytgjeihdibcjjcaa", sum := "03c9c60fea188214e6ed37768717d6bf2a95379e86a5d7917a38344e4123bbbd", func := "pianola/pianolalaw03.CancelEquals", spec := "cancelEquals", unfollowed := true, recurses := true, apart := false, narrowed := true }
def CancelEqualsUptoSaid : Prop := cancelEqualsUptoRow.holds Try.pinned (OpenSpec.upto cancelEqualsSpec)

/-- 'pianolalaw03.CancelRatios', WHERE WHAT IT READS IS OF BULK AT MOST 1048576: true; the input reads as it did. -/
def cancelRatiosUptoRow : OpenClaim := { program := "ytgjeihdibcjjcaa", sum := "03c9c60fea188214e6ed37768717d6bf2a95379e86a5d7917a38344e4123bbbd", func := "pianola/pianolalaw03.CancelRatios", spec := "cancelRatios", unfollowed := true, recurses := true, apart := false, narrowed := true }
def CancelRatiosUptoSaid : Prop := cancelRatiosUptoRow.holds Try.pinned (OpenSpec.upto cancelRatiosSpec)

/-- 'pianolalaw03.CancelCoprime', WHERE WHAT IT READS IS OF BULK AT MOST 1048576: true; the input reads as it did. -/
def cancelCoprimeUptoRow : OpenClaim := { program := "ytgjeihdibcjjcaa", sum := "03c9c60fea188214e6ed37768717d6bf2a95379e86a5d7917a38344e4123bbbd", func := "pianola/pianolalaw03.CancelCoprime", spec := "cancelCoprime", unfollowed := true, recurses := true, apart := false, narrowed := true }
def CancelCoprimeUptoSaid : Prop := cancelCoprimeUptoRow.holds Try.pinned (OpenSpec.upto cancelCoprimeSpec)

/-- 'pianolalaw03.CancelTurns', WHERE WHAT IT READS IS OF BULK AT MOST 1048576: true; the input reads as it did. -/
def cancelTurnsUptoRow : OpenClaim := { program := "ytgjeihdibcjjcaa", sum := "03c9c60fea188214e6ed37768717d6bf2a95379e86a5d7917a38344e4123bbbd", func := "pianola/pianolalaw03.CancelTurns", spec := "cancelTurns", unfollowed := true, recurses := true, apart := false, narrowed := true }
def CancelTurnsUptoSaid : Prop := cancelTurnsUptoRow.holds Try.pinned (OpenSpec.upto cancelTurnsSpec)

/-- 'pianolalaw03.CancelOrder', WHERE WHAT IT READS IS OF BULK AT MOST 1048576: true; the input reads as it did. -/
def cancelOrderUptoRow : OpenClaim := { program := "ytgjeihdibcjjcaa", sum := "03c9c60fea188214e6ed37768717d6bf2a95379e86a5d7917a38344e4123bbbd", func := "pianola/pianolalaw03.CancelOrder", spec := "cancelOrder", unfollowed := true, recurses := true, apart := false, narrowed := true }
def CancelOrderUptoSaid : Prop := cancelOrderUptoRow.holds Try.pinned (OpenSpec.upto cancelOrderSpec)

end Rows
end Go.Proofs.Ytgjeihdibcjjcaa
