/-
  No cell of these rows narrows 'for every input' (looked for: loops, veiled, ifaces, maps, wideKeys, modest, calm, conditions, laid).
  DERIVED. THE GIVEN ROWS OF THIS SEAT. 5 by the template 'for every input the law returns true; each argument reads behind the call as it read before'; 0 by the template 'total and deterministic' (their statements: YtdifaobfomfieaaTotals.lean).
  GIVEN WITH THE SEED: the statements are not yours to turn. If you find one false, say at which input.
  Laid BY PROGRAM, IN A SANDBOX (cutbox-rows.mjs): the forced cells as the released guide's own fill.sh prints them over the translation 1f2c219bf69db956… (all of the seat's roots in one cut). By AI agents, Wed Nov 11 2026. No macro, syntax, notation, axiom, sorry.
-/
import Derived.Test.YtdifaobfomfieaaChecked
import GoSem.Claim
import GoSem.ClaimJoined
import GoSem.ClaimMapViews
import Derived.JoinedTies
import Derived.KernelRfl
namespace Go.Proofs.Ytdifaobfomfieaa
/- THE CELL 'sum', in the pinned program and in every row, IS THE sha256 OF THE DUMP (.gsa) THAT YtdifaobfomfieaaProg.lean LOADS. Nothing in Lean hashes anything: it is a label: what it is worth is what the hold of that sum in a sandbox is worth. -/
noncomputable def Try.pinned : Pinned := { name := "ytdifaobfomfieaa", sum := "1f2c219bf69db956f9545baad5475effc13e7e3cacd9b468deb8c83d4d29963f", checked := Try.checked }
namespace Rows
def none {H : Type} : Left H := { results := [], args := [] }

/-- 'pianolalaw12.WitnessProducts': WHATEVER THE INPUT: true; the input reads as it did. -/
def witnessProductsSpec : ChangeSpec := { name := "witnessProducts", fn := fun _ => fun
  | [d1, d2] => { results := [.lit (.bool true)], args := [d1, d2] }
  | _ => none }
def witnessProductsRow : OpenClaim := { program := "ytdifaobfomfieaa", sum := "1f2c219bf69db956f9545baad5475effc13e7e3cacd9b468deb8c83d4d29963f", func := "pianola/pianolalaw12.WitnessProducts", spec := "witnessProducts", apart := false }
def WitnessProductsSaid : Prop := witnessProductsRow.holds Try.pinned (OpenSpec.ofChange witnessProductsSpec)

/-- ITS FALSE NEIGHBOUR: 'it returns false'. Refute it at one input. -/
def witnessProductsWrong : ChangeSpec := { name := "witnessProducts", fn := fun _ => fun
  | [d1, d2] => { results := [.lit (.bool false)], args := [d1, d2] }
  | _ => none }
def WitnessProductsWrongFalsely : Prop := witnessProductsRow.holds Try.pinned (OpenSpec.ofChange witnessProductsWrong)

/-- 'pianolalaw12.WitnessConfirms': WHATEVER THE INPUT: true; the input reads as it did. -/
def witnessConfirmsSpec : ChangeSpec := { name := "witnessConfirms", fn := fun _ => fun
  | [d1, d2] => { results := [.lit (.bool true)], args := [d1, d2] }
  | _ => none }
def witnessConfirmsRow : OpenClaim := { program := "ytdifaobfomfieaa", sum := "1f2c219bf69db956f9545baad5475effc13e7e3cacd9b468deb8c83d4d29963f", func := "pianola/pianolalaw12.WitnessConfirms", spec := "witnessConfirms", apart := false }
def WitnessConfirmsSaid : Prop := witnessConfirmsRow.holds Try.pinned (OpenSpec.ofChange witnessConfirmsSpec)

/-- ITS FALSE NEIGHBOUR: 'it returns false'. Refute it at one input. -/
def witnessConfirmsWrong : ChangeSpec := { name := "witnessConfirms", fn := fun _ => fun
  | [d1, d2] => { results := [.lit (.bool false)], args := [d1, d2] }
  | _ => none }
def WitnessConfirmsWrongFalsely : Prop := witnessConfirmsRow.holds Try.pinned (OpenSpec.ofChange witnessConfirmsWrong)

/-- 'pianolalaw12.WitnessDenies': WHATEVER THE INPUT: true; the input reads as it did. -/
def witnessDeniesSpec : ChangeSpec := { name := "witnessDenies", fn := fun _ => fun
  | [d1, d2, d3] => { results := [.lit (.bool true)], args := [d1, d2, d3] }
  | _ => none }
def witnessDeniesRow : OpenClaim := { program := "ytdifaobfomfieaa", sum := "1f2c219bf69db956f9545baad5475effc13e7e3cacd9b468deb8c83d4d29963f", func := "pianola/pianolalaw12.WitnessDenies", spec := "witnessDenies", apart := false }
def WitnessDeniesSaid : Prop := witnessDeniesRow.holds Try.pinned (OpenSpec.ofChange witnessDeniesSpec)

/-- ITS FALSE NEIGHBOUR: 'it returns false'. Refute it at one input. -/
def witnessDeniesWrong : ChangeSpec := { name := "witnessDenies", fn := fun _ => fun
  | [d1, d2, d3] => { results := [.lit (.bool false)], args := [d1, d2, d3] }
  | _ => none }
def WitnessDeniesWrongFalsely : Prop := witnessDeniesRow.holds Try.pinned (OpenSpec.ofChange witnessDeniesWrong)

/-- 'pianolalaw12.WitnessTurns': WHATEVER THE INPUT: true; the input reads as it did. -/
def witnessTurnsSpec : ChangeSpec := { name := "witnessTurns", fn := fun _ => fun
  | [d1, d2, d3] => { results := [.lit (.bool true)], args := [d1, d2, d3] }
  | _ => none }
def witnessTurnsRow : OpenClaim := { program := "ytdifaobfomfieaa", sum := "1f2c219bf69db956f9545baad5475effc13e7e3cacd9b468deb8c83d4d29963f", func := "pianola/pianolalaw12.WitnessTurns", spec := "witnessTurns", apart := false }
def WitnessTurnsSaid : Prop := witnessTurnsRow.holds Try.pinned (OpenSpec.ofChange witnessTurnsSpec)

/-- ITS FALSE NEIGHBOUR: 'it returns false'. Refute it at one input. -/
def witnessTurnsWrong : ChangeSpec := { name := "witnessTurns", fn := fun _ => fun
  | [d1, d2, d3] => { results := [.lit (.bool false)], args := [d1, d2, d3] }
  | _ => none }
def WitnessTurnsWrongFalsely : Prop := witnessTurnsRow.holds Try.pinned (OpenSpec.ofChange witnessTurnsWrong)

/-- 'pianolalaw12.WitnessPairs': WHATEVER THE INPUT: true; the input reads as it did. -/
def witnessPairsSpec : ChangeSpec := { name := "witnessPairs", fn := fun _ => fun
  | [d1, d2, d3] => { results := [.lit (.bool true)], args := [d1, d2, d3] }
  | _ => none }
def witnessPairsRow : OpenClaim := { program := "ytdifaobfomfieaa", sum := "1f2c219bf69db956f9545baad5475effc13e7e3cacd9b468deb8c83d4d29963f", func := "pianola/pianolalaw12.WitnessPairs", spec := "witnessPairs", apart := false }
def WitnessPairsSaid : Prop := witnessPairsRow.holds Try.pinned (OpenSpec.ofChange witnessPairsSpec)

/-- ITS FALSE NEIGHBOUR: 'it returns false'. Refute it at one input. -/
def witnessPairsWrong : ChangeSpec := { name := "witnessPairs", fn := fun _ => fun
  | [d1, d2, d3] => { results := [.lit (.bool false)], args := [d1, d2, d3] }
  | _ => none }
def WitnessPairsWrongFalsely : Prop := witnessPairsRow.holds Try.pinned (OpenSpec.ofChange witnessPairsWrong)

/- THE SECOND FORM. 'bulk': how many values and letters a reading holds, each counted each time it is reached (what is shared counts as often as it is met; a slice's spare places count too). A statement '..UptoSaid' is the law's where the arguments, and the package variables that the reading takes, are together of bulk at most 1048576: NARROWER than '..Said'. Prove '..Said' where nothing that the law and all that it calls make is longer than what came in: it says more and counts as full. Else prove '..UptoSaid'. A law counts once. -/
mutual
def uptoBulk {H : Type} : DataW H → Nat
  | .lit (.string bytes) => bytes.length + 1
  | .lit _ => 1
  | .nil => 1
  | .ptr d => uptoBulk d + 1
  | .slice elems spare => uptoBulkAll elems + uptoBulkAll spare + 1
  | .agg parts => uptoBulkAll parts + 1
  | .iface _ d => uptoBulk d + 1
  | .map entries => uptoBulkEntries entries + 1
  | .held _ => 1
def uptoBulkAll {H : Type} : List (DataW H) → Nat
  | [] => 0
  | d :: r => uptoBulk d + uptoBulkAll r
def uptoBulkEntries {H : Type} : List (Lit × DataW H) → Nat
  | [] => 0
  | x :: r => uptoBulkEntry x + uptoBulkEntries r
def uptoBulkEntry {H : Type} : Lit × DataW H → Nat
  | (.string bytes, d) => bytes.length + uptoBulk d + 1
  | (_, d) => uptoBulk d + 1
 end
def uptoSmall : (H : Type) → List (DataW H) → Bool := fun _ ds => decide (uptoBulkAll ds ≤ 1048576)
def OpenSpec.upto (s : _root_.Go.ChangeSpec) : _root_.Go.OpenSpec := { _root_.Go.OpenSpec.ofChange s with cond := some uptoSmall }

/-- 'pianolalaw12.WitnessProducts', WHERE WHAT IT READS IS OF BULK AT MOST 1048576: true; the input reads as it did. -/
def witnessProductsUptoRow : OpenClaim := { program := "ytdifaobfomfieaa", sum := "1f2c219bf69db956f9545baad5475effc13e7e3cacd9b468deb8c83d4d29963f", func := "pianola/pianolalaw12.WitnessProducts", spec := "witnessProducts", apart := false, narrowed := true }
def WitnessProductsUptoSaid : Prop := witnessProductsUptoRow.holds Try.pinned (OpenSpec.upto witnessProductsSpec)

/-- 'pianolalaw12.WitnessConfirms', WHERE WHAT IT READS IS OF BULK AT MOST 1048576: true; the input reads as it did. -/
def witnessConfirmsUptoRow : OpenClaim := { program := "ytdifaobfomfieaa", sum := "1f2c219bf69db956f9545baad5475effc13e7e3cacd9b468deb8c83d4d29963f", func := "pianola/pianolalaw12.WitnessConfirms", spec := "witnessConfirms", apart := false, narrowed := true }
def WitnessConfirmsUptoSaid : Prop := witnessConfirmsUptoRow.holds Try.pinned (OpenSpec.upto witnessConfirmsSpec)

/-- 'pianolalaw12.WitnessDenies', WHERE WHAT IT READS IS OF BULK AT MOST 1048576: true; the input reads as it did. -/
def witnessDeniesUptoRow : OpenClaim := { program := "ytdifaobfomfieaa", sum := "1f2c219bf69db956f9545baad5475effc13e7e3cacd9b468deb8c83d4d29963f", func := "pianola/pianolalaw12.WitnessDenies", spec := "witnessDenies", apart := false, narrowed := true }
def WitnessDeniesUptoSaid : Prop := witnessDeniesUptoRow.holds Try.pinned (OpenSpec.upto witnessDeniesSpec)

/-- 'pianolalaw12.WitnessTurns', WHERE WHAT IT READS IS OF BULK AT MOST 1048576: true; the input reads as it did. -/
def witnessTurnsUptoRow : OpenClaim := { program := "ytdifaobfomfieaa", sum := "1f2c219bf69db956f9545baad5475effc13e7e3cacd9b468deb8c83d4d29963f", func := "pianola/pianolalaw12.WitnessTurns", spec := "witnessTurns", apart := false, narrowed := true }
def WitnessTurnsUptoSaid : Prop := witnessTurnsUptoRow.holds Try.pinned (OpenSpec.upto witnessTurnsSpec)

/-- 'pianolalaw12.WitnessPairs', WHERE WHAT IT READS IS OF BULK AT MOST 1048576: true; the input reads as it did. -/
def witnessPairsUptoRow : OpenClaim := { program := "ytdifaobfomfieaa", sum := "1f2c219bf69db956f9545baad5475effc13e7e3cacd9b468deb8c83d4d29963f", func := "pianola/pianolalaw12.WitnessPairs", spec := "witnessPairs", apart := false, narrowed := true }
def WitnessPairsUptoSaid : Prop := witnessPairsUptoRow.holds Try.pinned (OpenSpec.upto witnessPairsSpec)

end Rows
end Go.Proofs.Ytdifaobfomfieaa
