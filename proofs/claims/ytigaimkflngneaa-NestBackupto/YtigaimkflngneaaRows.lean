/-
  No cell of these rows narrows 'for every input' (looked for: loops, veiled, ifaces, maps, wideKeys, modest, calm, conditions, laid).
  DERIVED. THE GIVEN ROWS OF THIS SEAT. 4 by the template 'for every input the law returns true; each argument reads behind the call as it read before'; 0 by the template 'total and deterministic' (their statements: YtigaimkflngneaaTotals.lean).
  GIVEN WITH THE SEED: the statements are not yours to turn. If you find one false, say at which input.
  Laid BY PROGRAM, IN A SANDBOX (cutbox-rows.mjs): the forced cells as the released guide's own fill.sh prints them over the translation fbe8b8ff7ca5b2ab… (all of the seat's roots in one cut). By AI agents, Wed Nov 11 2026. No macro, syntax, notation, axiom, sorry.
-/
import Derived.Test.YtigaimkflngneaaChecked
import GoSem.Claim
import GoSem.ClaimJoined
import GoSem.ClaimMapViews
import Derived.JoinedTies
import Derived.KernelRfl
namespace Go.Proofs.Ytigaimkflngneaa
/- THE CELL 'sum', in the pinned program and in every row, IS THE sha256 OF THE DUMP (.gsa) THAT YtigaimkflngneaaProg.lean LOADS. Nothing in Lean hashes anything: it is a label: what it is worth is what the hold of that sum in a sandbox is worth. -/
noncomputable def Try.pinned : Pinned := { name := "ytigaimkflngneaa", sum := "fbe8b8ff7ca5b2abd6c119fe46a5080a45c8f241764547e234d671c2ccbf2dc4", checked := Try.checked }
namespace Rows
def none {H : Type} : Left H := { results := [], args := [] }

/-- 'pianolalaw16.NestRuns': WHATEVER THE INPUT: true; the input reads as it did. -/
def nestRunsSpec : ChangeSpec := { name := "nestRuns", fn := fun _ => fun
  | [d] => { results := [.lit (.bool true)], args := [d] }
  | _ => none }
def nestRunsRow : OpenClaim := { program := "ytigaimkflngneaa", sum := "fbe8b8ff7ca5b2abd6c119fe46a5080a45c8f241764547e234d671c2ccbf2dc4", func := "pianola/pianolalaw16.NestRuns", spec := "nestRuns", unfollowed := true, recurses := true, apart := false }
def NestRunsSaid : Prop := nestRunsRow.holds Try.pinned (OpenSpec.ofChange nestRunsSpec)

/-- ITS FALSE NEIGHBOUR: 'it returns false'. Refute it at one input. -/
def nestRunsWrong : ChangeSpec := { name := "nestRuns", fn := fun _ => fun
  | [d] => { results := [.lit (.bool false)], args := [d] }
  | _ => none }
def NestRunsWrongFalsely : Prop := nestRunsRow.holds Try.pinned (OpenSpec.ofChange nestRunsWrong)

/-- 'pianolalaw16.NestFlats': WHATEVER THE INPUT: true; the input reads as it did. -/
def nestFlatsSpec : ChangeSpec := { name := "nestFlats", fn := fun _ => fun
  | [d] => { results := [.lit (.bool true)], args := [d] }
  | _ => none }
def nestFlatsRow : OpenClaim := { program := "ytigaimkflngneaa", sum := "fbe8b8ff7ca5b2abd6c119fe46a5080a45c8f241764547e234d671c2ccbf2dc4", func := "pianola/pianolalaw16.NestFlats", spec := "nestFlats", unfollowed := true, recurses := true, apart := false }
def NestFlatsSaid : Prop := nestFlatsRow.holds Try.pinned (OpenSpec.ofChange nestFlatsSpec)

/-- ITS FALSE NEIGHBOUR: 'it returns false'. Refute it at one input. -/
def nestFlatsWrong : ChangeSpec := { name := "nestFlats", fn := fun _ => fun
  | [d] => { results := [.lit (.bool false)], args := [d] }
  | _ => none }
def NestFlatsWrongFalsely : Prop := nestFlatsRow.holds Try.pinned (OpenSpec.ofChange nestFlatsWrong)

/-- 'pianolalaw16.NestBack': WHATEVER THE INPUT: true; the input reads as it did. -/
def nestBackSpec : ChangeSpec := { name := "nestBack", fn := fun _ => fun
  | [d] => { results := [.lit (.bool true)], args := [d] }
  | _ => none }
def nestBackRow : OpenClaim := { program := "ytigaimkflngneaa", sum := "fbe8b8ff7ca5b2abd6c119fe46a5080a45c8f241764547e234d671c2ccbf2dc4", func := "pianola/pianolalaw16.NestBack", spec := "nestBack", unfollowed := true, recurses := true, apart := false }
def NestBackSaid : Prop := nestBackRow.holds Try.pinned (OpenSpec.ofChange nestBackSpec)

/-- ITS FALSE NEIGHBOUR: 'it returns false'. Refute it at one input. -/
def nestBackWrong : ChangeSpec := { name := "nestBack", fn := fun _ => fun
  | [d] => { results := [.lit (.bool false)], args := [d] }
  | _ => none }
def NestBackWrongFalsely : Prop := nestBackRow.holds Try.pinned (OpenSpec.ofChange nestBackWrong)

/-- 'pianolalaw16.NestNames': WHATEVER THE INPUT: true; the input reads as it did. -/
def nestNamesSpec : ChangeSpec := { name := "nestNames", fn := fun _ => fun
  | [] => { results := [.lit (.bool true)], args := [] }
  | _ => none }
def nestNamesRow : OpenClaim := { program := "ytigaimkflngneaa", sum := "fbe8b8ff7ca5b2abd6c119fe46a5080a45c8f241764547e234d671c2ccbf2dc4", func := "pianola/pianolalaw16.NestNames", spec := "nestNames", unfollowed := true, recurses := true, apart := false }
def NestNamesSaid : Prop := nestNamesRow.holds Try.pinned (OpenSpec.ofChange nestNamesSpec)

/-- ITS FALSE NEIGHBOUR: 'it returns false'. Refute it at one input. -/
def nestNamesWrong : ChangeSpec := { name := "nestNames", fn := fun _ => fun
  | [] => { results := [.lit (.bool false)], args := [] }
  | _ => none }
def NestNamesWrongFalsely : Prop := nestNamesRow.holds Try.pinned (OpenSpec.ofChange nestNamesWrong)

/- THE SECOND FORM. 'bulk': how many values and letters a reading holds, each counted each time it is reached (what is shared counts as often as it is met; a slice's spare places count too). A statement '..UptoSaid' is the law's where the arguments, and the package variables that the reading takes, are together of bulk at most 1048576: NARROWER than '..Said'. Prove '..Said' where nothing that the law and all that it calls make is longer than what came in: it says more and counts as full. Else prove '..UptoSaid'. A law counts once. -/
mutual
def uptoBulk {H : Type} : DataW H → Nat
  | .lit (.string bytes) => bytes.length + 1
  | .lit _ => 1
  | .nil => 1
  | .ptr d => uptoBulk d + 1
  | .slice elems spare => uptoBulkAll elems + uptoBulkAll spare + 1
  | .agg parts => uptoBulkAll parts + 1
  | .iface _ d => uptoBulk d + 1
  | .map entries => uptoBulkEntries entries + 1
  | .held _ => 1
def uptoBulkAll {H : Type} : List (DataW H) → Nat
  | [] => 0
  | d :: r => uptoBulk d + uptoBulkAll r
def uptoBulkEntries {H : Type} : List (Lit × DataW H) → Nat
  | [] => 0
  | x :: r => uptoBulkEntry x + uptoBulkEntries r
def uptoBulkEntry {H : Type} : Lit × DataW H → Nat
  | (.string bytes, d) => bytes.length + uptoBulk d + 1
  | (_, d) => uptoBulk d + 1
 end
def uptoSmall : (H : Type) → List (DataW H) → Bool := fun _ ds => decide (uptoBulkAll ds ≤ 1048576)
def OpenSpec.upto (s : _root_.Go.ChangeSpec) : _root_.Go.OpenSpec := { _root_.Go.OpenSpec.ofChange s with cond := some uptoSmall }

/-- 'pianolalaw16.NestRuns', WHERE WHAT IT READS IS OF BULK AT MOST 1048576: true; the input reads as it did. -/
def nestRunsUptoRow : OpenClaim := { program := "ytigaimkflngneaa", sum := "fbe8b8ff7ca5b2abd6c119fe46a5080a45c8f241764547e234d671c2ccbf2dc4", func := "pianola/pianolalaw16.NestRuns", spec := "nestRuns", unfollowed := true, recurses := true, apart := false, narrowed := true }
def NestRunsUptoSaid : Prop := nestRunsUptoRow.holds Try.pinned (OpenSpec.upto nestRunsSpec)

/-- 'pianolalaw16.NestFlats', WHERE WHAT IT READS IS OF BULK AT MOST 1048576: true; the input reads as it did. -/
def nestFlatsUptoRow : OpenClaim := { program := "ytigaimkflngneaa", sum := "fbe8b8ff7ca5b2abd6c119fe46a5080a45c8f241764547e234d671c2ccbf2dc4", func := "pianola/pianolalaw16.NestFlats", spec := "nestFlats", unfollowed := true, recurses := true, apart := false, narrowed := true }
def NestFlatsUptoSaid : Prop := nestFlatsUptoRow.holds Try.pinned (OpenSpec.upto nestFlatsSpec)

/-- 'pianolalaw16.NestBack', WHERE WHAT IT READS IS OF BULK AT MOST 1048576: true; the input reads as it did. -/
def nestBackUptoRow : OpenClaim := { program := "ytigaimkflngneaa", sum := "fbe8b8ff7ca5b2abd6c119fe46a5080a45c8f241764547e234d671c2ccbf2dc4", func := "pianola/pianolalaw16.NestBack", spec := "nestBack", unfollowed := true, recurses := true, apart := false, narrowed := true }
def NestBackUptoSaid : Prop := nestBackUptoRow.holds Try.pinned (OpenSpec.upto nestBackSpec)

/-- 'pianolalaw16.NestNames', WHERE WHAT IT READS IS OF BULK AT MOST 1048576: true; the input reads as it did. -/
def nestNamesUptoRow : OpenClaim := { program := "ytigaimkflngneaa", sum := "fbe8b8ff7ca5b2abd6c119fe46a5080a45c8f241764547e234d671c2ccbf2dc4", func := "pianola/pianolalaw16.NestNames", spec := "nestNames", unfollowed := true, recurses := true, apart := false, narrowed := true }
def NestNamesUptoSaid : Prop := nestNamesUptoRow.holds Try.pinned (OpenSpec.upto nestNamesSpec)

end Rows
end Go.Proofs.Ytigaimkflngneaa
