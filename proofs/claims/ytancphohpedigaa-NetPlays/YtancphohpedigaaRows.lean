/-
  No cell of these rows narrows 'for every input' (looked for: loops, veiled, ifaces, maps, wideKeys, modest, calm, conditions, laid).
  DERIVED. THE GIVEN ROWS OF THIS SEAT. 6 by the template 'for every input the law returns true; each argument reads behind the call as it read before'; 0 by the template 'total and deterministic' (their statements: YtancphohpedigaaTotals.lean).
  GIVEN WITH THE SEED: the statements are not yours to turn. If you find one false, say at which input.
  Laid BY PROGRAM, IN A SANDBOX (cutbox-rows.mjs): the forced cells as the released guide's own fill.sh prints them over the translation b9332fdf5b29ef81… (all of the seat's roots in one cut). By AI agents, Wed Nov 11 2026. No macro, syntax, notation, axiom, sorry.
-/
import Derived.Test.YtancphohpedigaaChecked
import GoSem.Claim
import GoSem.ClaimJoined
import GoSem.ClaimMapViews
import Derived.JoinedTies
import Derived.KernelRfl
namespace Go.Proofs.Ytancphohpedigaa
/- THE CELL 'sum', in the pinned program and in every row, IS THE sha256 OF THE DUMP (.gsa) THAT YtancphohpedigaaProg.lean LOADS. Nothing in Lean hashes anything: it is a label: what it is worth is what the hold of that sum in a sandbox is worth. -/
noncomputable def Try.pinned : Pinned := { name := "ytancphohpedigaa", sum := "b9332fdf5b29ef812255cec3ee19003e15ff2847983659e5405ee3e10d9ca51b", checked := Try.checked }
namespace Rows
def none {H : Type} : Left H := { results := [], args := [] }

/-- 'pianolalaw10.NetChecks': WHATEVER THE INPUT: true; the input reads as it did. -/
def netChecksSpec : ChangeSpec := { name := "netChecks", fn := fun _ => fun
  | [d] => { results := [.lit (.bool true)], args := [d] }
  | _ => none }
def netChecksRow : OpenClaim := { program := "ytancphohpedigaa", sum := "b9332fdf5b29ef812255cec3ee19003e15ff2847983659e5405ee3e10d9ca51b", func := "pianola/pianolalaw10.NetChecks", spec := "netChecks", apart := false }
def NetChecksSaid : Prop := netChecksRow.holds Try.pinned (OpenSpec.ofChange netChecksSpec)

/-- ITS FALSE NEIGHBOUR: 'it returns false'. Refute it at one input. -/
def netChecksWrong : ChangeSpec := { name := "netChecks", fn := fun _ => fun
  | [d] => { results := [.lit (.bool false)], args := [d] }
  | _ => none }
def NetChecksWrongFalsely : Prop := netChecksRow.holds Try.pinned (OpenSpec.ofChange netChecksWrong)

/-- 'pianolalaw10.NetOf': WHATEVER THE INPUT: true; the input reads as it did. -/
def netOfSpec : ChangeSpec := { name := "netOf", fn := fun _ => fun
  | [d] => { results := [.lit (.bool true)], args := [d] }
  | _ => none }
def netOfRow : OpenClaim := { program := "ytancphohpedigaa", sum := "b9332fdf5b29ef812255cec3ee19003e15ff2847983659e5405ee3e10d9ca51b", func := "pianola/pianolalaw10.NetOf", spec := "netOf", unfollowed := true, recurses := true, apart := false }
def NetOfSaid : Prop := netOfRow.holds Try.pinned (OpenSpec.ofChange netOfSpec)

/-- ITS FALSE NEIGHBOUR: 'it returns false'. Refute it at one input. -/
def netOfWrong : ChangeSpec := { name := "netOf", fn := fun _ => fun
  | [d] => { results := [.lit (.bool false)], args := [d] }
  | _ => none }
def NetOfWrongFalsely : Prop := netOfRow.holds Try.pinned (OpenSpec.ofChange netOfWrong)

/-- 'pianolalaw10.NetPlays': WHATEVER THE INPUT: true; the input reads as it did. -/
def netPlaysSpec : ChangeSpec := { name := "netPlays", fn := fun _ => fun
  | [d1, d2] => { results := [.lit (.bool true)], args := [d1, d2] }
  | _ => none }
def netPlaysRow : OpenClaim := { program := "ytancphohpedigaa", sum := "b9332fdf5b29ef812255cec3ee19003e15ff2847983659e5405ee3e10d9ca51b", func := "pianola/pianolalaw10.NetPlays", spec := "netPlays", apart := false }
def NetPlaysSaid : Prop := netPlaysRow.holds Try.pinned (OpenSpec.ofChange netPlaysSpec)

/-- ITS FALSE NEIGHBOUR: 'it returns false'. Refute it at one input. -/
def netPlaysWrong : ChangeSpec := { name := "netPlays", fn := fun _ => fun
  | [d1, d2] => { results := [.lit (.bool false)], args := [d1, d2] }
  | _ => none }
def NetPlaysWrongFalsely : Prop := netPlaysRow.holds Try.pinned (OpenSpec.ofChange netPlaysWrong)

/-- 'pianolalaw10.NetEquation': WHATEVER THE INPUT: true; the input reads as it did. -/
def netEquationSpec : ChangeSpec := { name := "netEquation", fn := fun _ => fun
  | [d1, d2] => { results := [.lit (.bool true)], args := [d1, d2] }
  | _ => none }
def netEquationRow : OpenClaim := { program := "ytancphohpedigaa", sum := "b9332fdf5b29ef812255cec3ee19003e15ff2847983659e5405ee3e10d9ca51b", func := "pianola/pianolalaw10.NetEquation", spec := "netEquation", apart := false }
def NetEquationSaid : Prop := netEquationRow.holds Try.pinned (OpenSpec.ofChange netEquationSpec)

/-- ITS FALSE NEIGHBOUR: 'it returns false'. Refute it at one input. -/
def netEquationWrong : ChangeSpec := { name := "netEquation", fn := fun _ => fun
  | [d1, d2] => { results := [.lit (.bool false)], args := [d1, d2] }
  | _ => none }
def NetEquationWrongFalsely : Prop := netEquationRow.holds Try.pinned (OpenSpec.ofChange netEquationWrong)

/-- 'pianolalaw10.NetSwaps': WHATEVER THE INPUT: true; the input reads as it did. -/
def netSwapsSpec : ChangeSpec := { name := "netSwaps", fn := fun _ => fun
  | [d1, d2, d3] => { results := [.lit (.bool true)], args := [d1, d2, d3] }
  | _ => none }
def netSwapsRow : OpenClaim := { program := "ytancphohpedigaa", sum := "b9332fdf5b29ef812255cec3ee19003e15ff2847983659e5405ee3e10d9ca51b", func := "pianola/pianolalaw10.NetSwaps", spec := "netSwaps", apart := false }
def NetSwapsSaid : Prop := netSwapsRow.holds Try.pinned (OpenSpec.ofChange netSwapsSpec)

/-- ITS FALSE NEIGHBOUR: 'it returns false'. Refute it at one input. -/
def netSwapsWrong : ChangeSpec := { name := "netSwaps", fn := fun _ => fun
  | [d1, d2, d3] => { results := [.lit (.bool false)], args := [d1, d2, d3] }
  | _ => none }
def NetSwapsWrongFalsely : Prop := netSwapsRow.holds Try.pinned (OpenSpec.ofChange netSwapsWrong)

/-- 'pianolalaw10.NetStays': WHATEVER THE INPUT: true; the input reads as it did. -/
def netStaysSpec : ChangeSpec := { name := "netStays", fn := fun _ => fun
  | [d1, d2, d3] => { results := [.lit (.bool true)], args := [d1, d2, d3] }
  | _ => none }
def netStaysRow : OpenClaim := { program := "ytancphohpedigaa", sum := "b9332fdf5b29ef812255cec3ee19003e15ff2847983659e5405ee3e10d9ca51b", func := "pianola/pianolalaw10.NetStays", spec := "netStays", apart := false }
def NetStaysSaid : Prop := netStaysRow.holds Try.pinned (OpenSpec.ofChange netStaysSpec)

/-- ITS FALSE NEIGHBOUR: 'it returns false'. Refute it at one input. -/
def netStaysWrong : ChangeSpec := { name := "netStays", fn := fun _ => fun
  | [d1, d2, d3] => { results := [.lit (.bool false)], args := [d1, d2, d3] }
  | _ => none }
def NetStaysWrongFalsely : Prop := netStaysRow.holds Try.pinned (OpenSpec.ofChange netStaysWrong)

/- THE SECOND FORM. 'bulk': how many values and letters a reading holds, each counted each time it is reached (what is shared counts as often as it is met; a slice's spare places count too). A statement '..UptoSaid' is the law's where the arguments, and the package variables that the reading takes, are together of bulk at most 1048576: NARROWER than '..Said'. Prove '..Said' where nothing that the law and all that it calls make is longer than what came in: it says more and counts as full. Else prove '..UptoSaid'. A law counts once. -/
mutual
def uptoBulk {H : Type} : DataW H → Nat
  | .lit (.string bytes) => bytes.length + 1
  | .lit _ => 1
  | .nil => 1
  | .ptr d => uptoBulk d + 1
  | .slice elems spare => uptoBulkAll elems + uptoBulkAll spare + 1
  | .agg parts => uptoBulkAll parts + 1
  | .iface _ d => uptoBulk d + 1
  | .map entries => uptoBulkEntries entries + 1
  | .held _ => 1
def uptoBulkAll {H : Type} : List (DataW H) → Nat
  | [] => 0
  | d :: r => uptoBulk d + uptoBulkAll r
def uptoBulkEntries {H : Type} : List (Lit × DataW H) → Nat
  | [] => 0
  | x :: r => uptoBulkEntry x + uptoBulkEntries r
def uptoBulkEntry {H : Type} : Lit × DataW H → Nat
  | (.string bytes, d) => bytes.length + uptoBulk d + 1
  | (_, d) => uptoBulk d + 1
 end
def uptoSmall : (H : Type) → List (DataW H) → Bool := fun _ ds => decide (uptoBulkAll ds ≤ 1048576)
def OpenSpec.upto (s : _root_.Go.ChangeSpec) : _root_.Go.OpenSpec := { _root_.Go.OpenSpec.ofChange s with cond := some uptoSmall }

/-- 'pianolalaw10.NetChecks', WHERE WHAT IT READS IS OF BULK AT MOST 1048576: true; the input reads as it did. -/
def netChecksUptoRow : OpenClaim := { program := "ytancphohpedigaa", sum := "b9332fdf5b29ef812255cec3ee19003e15ff2847983659e5405ee3e10d9ca51b", func := "pianola/pianolalaw10.NetChecks", spec := "netChecks", apart := false, narrowed := true }
def NetChecksUptoSaid : Prop := netChecksUptoRow.holds Try.pinned (OpenSpec.upto netChecksSpec)

/-- 'pianolalaw10.NetOf', WHERE WHAT IT READS IS OF BULK AT MOST 1048576: true; the input reads as it did. -/
def netOfUptoRow : OpenClaim := { program := "ytancphohpedigaa", sum := "b9332fdf5b29ef812255cec3ee19003e15ff2847983659e5405ee3e10d9ca51b", func := "pianola/pianolalaw10.NetOf", spec := "netOf", unfollowed := true, recurses := true, apart := false, narrowed := true }
def NetOfUptoSaid : Prop := netOfUptoRow.holds Try.pinned (OpenSpec.upto netOfSpec)

/-- 'pianolalaw10.NetPlays', WHERE WHAT IT READS IS OF BULK AT MOST 1048576: true; the input reads as it did. -/
def netPlaysUptoRow : OpenClaim := { program := "ytancphohpedigaa", sum := "b9332fdf5b29ef812255cec3ee19003e15ff2847983659e5405ee3e10d9ca51b", func := "pianola/pianolalaw10.NetPlays", spec := "netPlays", apart := false, narrowed := true }
def NetPlaysUptoSaid : Prop := netPlaysUptoRow.holds Try.pinned (OpenSpec.upto netPlaysSpec)

/-- 'pianolalaw10.NetEquation', WHERE WHAT IT READS IS OF BULK AT MOST 1048576: true; the input reads as it did. -/
def netEquationUptoRow : OpenClaim := { program := "ytancphohpedigaa", sum := "b9332fdf5b29ef812255cec3ee19003e15ff2847983659e5405ee3e10d9ca51b", func := "pianola/pianolalaw10.NetEquation", spec := "netEquation", apart := false, narrowed := true }
def NetEquationUptoSaid : Prop := netEquationUptoRow.holds Try.pinned (OpenSpec.upto netEquationSpec)

/-- 'pianolalaw10.NetSwaps', WHERE WHAT IT READS IS OF BULK AT MOST 1048576: true; the input reads as it did. -/
def netSwapsUptoRow : OpenClaim := { program := "ytancphohpedigaa", sum := "b9332fdf5b29ef812255cec3ee19003e15ff2847983659e5405ee3e10d9ca51b", func := "pianola/pianolalaw10.NetSwaps", spec := "netSwaps", apart := false, narrowed := true }
def NetSwapsUptoSaid : Prop := netSwapsUptoRow.holds Try.pinned (OpenSpec.upto netSwapsSpec)

/-- 'pianolalaw10.NetStays', WHERE WHAT IT READS IS OF BULK AT MOST 1048576: true; the input reads as it did. -/
def netStaysUptoRow : OpenClaim := { program := "ytancphohpedigaa", sum := "b9332fdf5b29ef812255cec3ee19003e15ff2847983659e5405ee3e10d9ca51b", func := "pianola/pianolalaw10.NetStays", spec := "netStays", apart := false, narrowed := true }
def NetStaysUptoSaid : Prop := netStaysUptoRow.holds Try.pinned (OpenSpec.upto netStaysSpec)

end Rows
end Go.Proofs.Ytancphohpedigaa
