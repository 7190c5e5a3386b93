/-
  No cell of these rows narrows 'for every input' (looked for: loops, veiled, ifaces, maps, wideKeys, modest, calm, conditions, laid).
  DERIVED. THE GIVEN ROWS OF THIS SEAT. 4 by the template 'for every input the law returns true; each argument reads behind the call as it read before'; 0 by the template 'total and deterministic' (their statements: YthgblljokonejaaTotals.lean).
  GIVEN WITH THE SEED: the statements are not yours to turn. If you find one false, say at which input.
  Laid BY PROGRAM, IN A SANDBOX (cutbox-rows.mjs): the forced cells as the released guide's own fill.sh prints them over the translation f880e92f85dbd0d1… (all of the seat's roots in one cut). By AI agents, Wed Nov 11 2026. No macro, syntax, notation, axiom, sorry.
-/
import Derived.Test.YthgblljokonejaaChecked
import GoSem.Claim
import GoSem.ClaimJoined
import GoSem.ClaimMapViews
import Derived.JoinedTies
import Derived.KernelRfl
namespace Go.Proofs.Ythgblljokonejaa
/- THE CELL 'sum', in the pinned program and in every row, IS THE sha256 OF THE DUMP (.gsa) THAT YthgblljokonejaaProg.lean LOADS. Nothing in Lean hashes anything: it is a label: what it is worth is what the hold of that sum in a sandbox is worth. -/
noncomputable def Try.pinned : Pinned := { name := "ythgblljokonejaa", sum := "f880e92f85dbd0d18a12c94c64a509c0ea9b0a798b74703dc0002da99e03ac28", checked := Try.checked }
namespace Rows
def none {H : Type} : Left H := { results := [], args := [] }

/-- 'pianolalaw07.ActorsPlays': WHATEVER THE INPUT: true; the input reads as it did. -/
def actorsPlaysSpec : ChangeSpec := { name := "actorsPlays", fn := fun _ => fun
  | [d1, d2, d3] => { results := [.lit (.bool true)], args := [d1, d2, d3] }
  | _ => none }
def actorsPlaysRow : OpenClaim := { program := "ythgblljokonejaa", sum := "f880e92f85dbd0d18a12c94c64a509c0ea9b0a798b74703dc0002da99e03ac28", func := "pianola/pianolalaw07.ActorsPlays", spec := "actorsPlays", unfollowed := true, recurses := true, apart := false }
def ActorsPlaysSaid : Prop := actorsPlaysRow.holds Try.pinned (OpenSpec.ofChange actorsPlaysSpec)

/-- ITS FALSE NEIGHBOUR: 'it returns false'. Refute it at one input. -/
def actorsPlaysWrong : ChangeSpec := { name := "actorsPlays", fn := fun _ => fun
  | [d1, d2, d3] => { results := [.lit (.bool false)], args := [d1, d2, d3] }
  | _ => none }
def ActorsPlaysWrongFalsely : Prop := actorsPlaysRow.holds Try.pinned (OpenSpec.ofChange actorsPlaysWrong)

/-- 'pianolalaw07.ActorsFails': WHATEVER THE INPUT: true; the input reads as it did. -/
def actorsFailsSpec : ChangeSpec := { name := "actorsFails", fn := fun _ => fun
  | [d1, d2, d3] => { results := [.lit (.bool true)], args := [d1, d2, d3] }
  | _ => none }
def actorsFailsRow : OpenClaim := { program := "ythgblljokonejaa", sum := "f880e92f85dbd0d18a12c94c64a509c0ea9b0a798b74703dc0002da99e03ac28", func := "pianola/pianolalaw07.ActorsFails", spec := "actorsFails", unfollowed := true, recurses := true, apart := false }
def ActorsFailsSaid : Prop := actorsFailsRow.holds Try.pinned (OpenSpec.ofChange actorsFailsSpec)

/-- ITS FALSE NEIGHBOUR: 'it returns false'. Refute it at one input. -/
def actorsFailsWrong : ChangeSpec := { name := "actorsFails", fn := fun _ => fun
  | [d1, d2, d3] => { results := [.lit (.bool false)], args := [d1, d2, d3] }
  | _ => none }
def ActorsFailsWrongFalsely : Prop := actorsFailsRow.holds Try.pinned (OpenSpec.ofChange actorsFailsWrong)

/-- 'pianolalaw07.ActorsTwo': WHATEVER THE INPUT: true; the input reads as it did. -/
def actorsTwoSpec : ChangeSpec := { name := "actorsTwo", fn := fun _ => fun
  | [d1, d2, d3] => { results := [.lit (.bool true)], args := [d1, d2, d3] }
  | _ => none }
def actorsTwoRow : OpenClaim := { program := "ythgblljokonejaa", sum := "f880e92f85dbd0d18a12c94c64a509c0ea9b0a798b74703dc0002da99e03ac28", func := "pianola/pianolalaw07.ActorsTwo", spec := "actorsTwo", unfollowed := true, recurses := true, apart := false }
def ActorsTwoSaid : Prop := actorsTwoRow.holds Try.pinned (OpenSpec.ofChange actorsTwoSpec)

/-- ITS FALSE NEIGHBOUR: 'it returns false'. Refute it at one input. -/
def actorsTwoWrong : ChangeSpec := { name := "actorsTwo", fn := fun _ => fun
  | [d1, d2, d3] => { results := [.lit (.bool false)], args := [d1, d2, d3] }
  | _ => none }
def ActorsTwoWrongFalsely : Prop := actorsTwoRow.holds Try.pinned (OpenSpec.ofChange actorsTwoWrong)

/-- 'pianolalaw08.GraphChecks': WHATEVER THE INPUT: true; the input reads as it did. -/
def graphChecksSpec : ChangeSpec := { name := "graphChecks", fn := fun _ => fun
  | [d] => { results := [.lit (.bool true)], args := [d] }
  | _ => none }
def graphChecksRow : OpenClaim := { program := "ythgblljokonejaa", sum := "f880e92f85dbd0d18a12c94c64a509c0ea9b0a798b74703dc0002da99e03ac28", func := "pianola/pianolalaw08.GraphChecks", spec := "graphChecks", unfollowed := true, recurses := true, apart := false }
def GraphChecksSaid : Prop := graphChecksRow.holds Try.pinned (OpenSpec.ofChange graphChecksSpec)

/-- ITS FALSE NEIGHBOUR: 'it returns false'. Refute it at one input. -/
def graphChecksWrong : ChangeSpec := { name := "graphChecks", fn := fun _ => fun
  | [d] => { results := [.lit (.bool false)], args := [d] }
  | _ => none }
def GraphChecksWrongFalsely : Prop := graphChecksRow.holds Try.pinned (OpenSpec.ofChange graphChecksWrong)

/- THE SECOND FORM. 'bulk': how many values and letters a reading holds, each counted each time it is reached (what is shared counts as often as it is met; a slice's spare places count too). A statement '..UptoSaid' is the law's where the arguments, and the package variables that the reading takes, are together of bulk at most 1048576: NARROWER than '..Said'. Prove '..Said' where nothing that the law and all that it calls make is longer than what came in: it says more and counts as full. Else prove '..UptoSaid'. A law counts once. -/
mutual
def uptoBulk {H : Type} : DataW H → Nat
  | .lit (.string bytes) => bytes.length + 1
  | .lit _ => 1
  | .nil => 1
  | .ptr d => uptoBulk d + 1
  | .slice elems spare => uptoBulkAll elems + uptoBulkAll spare + 1
  | .agg parts => uptoBulkAll parts + 1
  | .iface _ d => uptoBulk d + 1
  | .map entries => uptoBulkEntries entries + 1
  | .held _ => 1
def uptoBulkAll {H : Type} : List (DataW H) → Nat
  | [] => 0
  | d :: r => uptoBulk d + uptoBulkAll r
def uptoBulkEntries {H : Type} : List (Lit × DataW H) → Nat
  | [] => 0
  | x :: r => uptoBulkEntry x + uptoBulkEntries r
def uptoBulkEntry {H : Type} : Lit × DataW H → Nat
  | (.string bytes, d) => bytes.length + uptoBulk d + 1
  | (_, d) => uptoBulk d + 1
 end
def uptoSmall : (H : Type) → List (DataW H) → Bool := fun _ ds => decide (uptoBulkAll ds ≤ 1048576)
def OpenSpec.upto (s : _root_.Go.ChangeSpec) : _root_.Go.OpenSpec := { _root_.Go.OpenSpec.ofChange s with cond := some uptoSmall }

/-- 'pianolalaw07.ActorsPlays', WHERE WHAT IT READS IS OF BULK AT MOST 1048576: true; the input reads as it did. -/
def actorsPlaysUptoRow : OpenClaim := { program := "ythgblljokonejaa", sum := "f880e92f85dbd0d18a12c94c64a509c0ea9b0a798b74703dc0002da99e03ac28", func := "pianola/pianolalaw07.ActorsPlays", spec := "actorsPlays", unfollowed := true, recurses := true, apart := false, narrowed := true }
def ActorsPlaysUptoSaid : Prop := actorsPlaysUptoRow.holds Try.pinned (OpenSpec.upto actorsPlaysSpec)

/-- 'pianolalaw07.ActorsFails', WHERE WHAT IT READS IS OF BULK AT MOST 1048576: true; the input reads as it did. -/
def actorsFailsUptoRow : OpenClaim := { program := "ythgblljokonejaa", sum := "f880e92f85dbd0d18a12c94c64a509c0ea9b0a798b74703dc0002da99e03ac28", func := "pianola/pianolalaw07.ActorsFails", spec := "actorsFails", unfollowed := true, recurses := true, apart := false, narrowed := true }
def ActorsFailsUptoSaid : Prop := actorsFailsUptoRow.holds Try.pinned (OpenSpec.upto actorsFailsSpec)

/-- 'pianolalaw07.ActorsTwo', WHERE WHAT IT READS IS OF BULK AT MOST 1048576: true; the input reads as it did. -/
def actorsTwoUptoRow : OpenClaim := { program := "ythgblljokonejaa", sum := "f880e92f85dbd0d18a12c94c64a509c0ea9b0a798b74703dc0002da99e03ac28", func := "pianola/pianolalaw07.ActorsTwo", spec := "actorsTwo", unfollowed := true, recurses := true, apart := false, narrowed := true }
def ActorsTwoUptoSaid : Prop := actorsTwoUptoRow.holds Try.pinned (OpenSpec.upto actorsTwoSpec)

/-- 'pianolalaw08.GraphChecks', WHERE WHAT IT READS IS OF BULK AT MOST 1048576: true; the input reads as it did. -/
def graphChecksUptoRow : OpenClaim := { program := "ythgblljokonejaa", sum := "f880e92f85dbd0d18a12c94c64a509c0ea9b0a798b74703dc0002da99e03ac28", func := "pianola/pianolalaw08.GraphChecks", spec := "graphChecks", unfollowed := true, recurses := true, apart := false, narrowed := true }
def GraphChecksUptoSaid : Prop := graphChecksUptoRow.holds Try.pinned (OpenSpec.upto graphChecksSpec)

end Rows
end Go.Proofs.Ythgblljokonejaa
