/-
  NARROWER THAN 'FOR EVERY INPUT', by the rows' own cells (each row's printed sentence says how): NestChecks: loops · NestMeasures: loops · NestExpands: loops · NestRanges: loops · NestJoins: loops · NestRound: loops.
  DERIVED. THE GIVEN ROWS OF THIS SEAT. 6 by the template 'for every input the law returns true; each argument reads behind the call as it read before'; 0 by the template 'total and deterministic' (their statements: YthgmdaaiolgjlaaTotals.lean).
  GIVEN WITH THE SEED: the statements are not yours to turn. If you find one false, say at which input.
  Laid BY PROGRAM, IN A SANDBOX (cutbox-rows.mjs): the forced cells as the released guide's own fill.sh prints them over the translation 26735a1401dfd02b… (all of the seat's roots in one cut). By AI agents, Wed Nov 11 2026. No macro, syntax, notation, axiom, sorry.
-/
import Derived.Test.YthgmdaaiolgjlaaChecked
import GoSem.Claim
import GoSem.ClaimJoined
import GoSem.ClaimMapViews
import Derived.JoinedTies
import Derived.KernelRfl
namespace Go.Proofs.Ythgmdaaiolgjlaa
/- THE CELL 'sum', in the pinned program and in every row, IS THE sha256 OF THE DUMP (.gsa) THAT YthgmdaaiolgjlaaProg.lean LOADS. Nothing in Lean hashes anything: it is a label: what it is worth is what the hold of that sum in a sandbox is worth. -/
noncomputable def Try.pinned : Pinned := { name := "ythgmdaaiolgjlaa", sum := "26735a1401dfd02bf0275ba208747cacd5f8e0c4136f4c4235c9973bfed181a3", checked := Try.checked }
namespace Rows
def none {H : Type} : Left H := { results := [], args := [] }

/-- 'pianolalaw16.NestChecks': WHATEVER THE INPUT: true; the input reads as it did. -/
def nestChecksSpec : ChangeSpec := { name := "nestChecks", fn := fun _ => fun
  | [d] => { results := [.lit (.bool true)], args := [d] }
  | _ => none }
def nestChecksRow : OpenClaim := { program := "ythgmdaaiolgjlaa", sum := "26735a1401dfd02bf0275ba208747cacd5f8e0c4136f4c4235c9973bfed181a3", func := "pianola/pianolalaw16.NestChecks", spec := "nestChecks", unfollowed := true, recurses := true, loops := true, apart := false }
def NestChecksSaid : Prop := nestChecksRow.holds Try.pinned (OpenSpec.ofChange nestChecksSpec)

/-- ITS FALSE NEIGHBOUR: 'it returns false'. Refute it at one input. -/
def nestChecksWrong : ChangeSpec := { name := "nestChecks", fn := fun _ => fun
  | [d] => { results := [.lit (.bool false)], args := [d] }
  | _ => none }
def NestChecksWrongFalsely : Prop := nestChecksRow.holds Try.pinned (OpenSpec.ofChange nestChecksWrong)

/-- 'pianolalaw16.NestMeasures': WHATEVER THE INPUT: true; the input reads as it did. -/
def nestMeasuresSpec : ChangeSpec := { name := "nestMeasures", fn := fun _ => fun
  | [d] => { results := [.lit (.bool true)], args := [d] }
  | _ => none }
def nestMeasuresRow : OpenClaim := { program := "ythgmdaaiolgjlaa", sum := "26735a1401dfd02bf0275ba208747cacd5f8e0c4136f4c4235c9973bfed181a3", func := "pianola/pianolalaw16.NestMeasures", spec := "nestMeasures", unfollowed := true, recurses := true, loops := true, apart := false }
def NestMeasuresSaid : Prop := nestMeasuresRow.holds Try.pinned (OpenSpec.ofChange nestMeasuresSpec)

/-- ITS FALSE NEIGHBOUR: 'it returns false'. Refute it at one input. -/
def nestMeasuresWrong : ChangeSpec := { name := "nestMeasures", fn := fun _ => fun
  | [d] => { results := [.lit (.bool false)], args := [d] }
  | _ => none }
def NestMeasuresWrongFalsely : Prop := nestMeasuresRow.holds Try.pinned (OpenSpec.ofChange nestMeasuresWrong)

/-- 'pianolalaw16.NestExpands': WHATEVER THE INPUT: true; the input reads as it did. -/
def nestExpandsSpec : ChangeSpec := { name := "nestExpands", fn := fun _ => fun
  | [d] => { results := [.lit (.bool true)], args := [d] }
  | _ => none }
def nestExpandsRow : OpenClaim := { program := "ythgmdaaiolgjlaa", sum := "26735a1401dfd02bf0275ba208747cacd5f8e0c4136f4c4235c9973bfed181a3", func := "pianola/pianolalaw16.NestExpands", spec := "nestExpands", unfollowed := true, recurses := true, loops := true, apart := false }
def NestExpandsSaid : Prop := nestExpandsRow.holds Try.pinned (OpenSpec.ofChange nestExpandsSpec)

/-- ITS FALSE NEIGHBOUR: 'it returns false'. Refute it at one input. -/
def nestExpandsWrong : ChangeSpec := { name := "nestExpands", fn := fun _ => fun
  | [d] => { results := [.lit (.bool false)], args := [d] }
  | _ => none }
def NestExpandsWrongFalsely : Prop := nestExpandsRow.holds Try.pinned (OpenSpec.ofChange nestExpandsWrong)

/-- 'pianolalaw16.NestRanges': WHATEVER THE INPUT: true; the input reads as it did. -/
def nestRangesSpec : ChangeSpec := { name := "nestRanges", fn := fun _ => fun
  | [d1, d2] => { results := [.lit (.bool true)], args := [d1, d2] }
  | _ => none }
def nestRangesRow : OpenClaim := { program := "ythgmdaaiolgjlaa", sum := "26735a1401dfd02bf0275ba208747cacd5f8e0c4136f4c4235c9973bfed181a3", func := "pianola/pianolalaw16.NestRanges", spec := "nestRanges", unfollowed := true, recurses := true, loops := true, apart := false }
def NestRangesSaid : Prop := nestRangesRow.holds Try.pinned (OpenSpec.ofChange nestRangesSpec)

/-- ITS FALSE NEIGHBOUR: 'it returns false'. Refute it at one input. -/
def nestRangesWrong : ChangeSpec := { name := "nestRanges", fn := fun _ => fun
  | [d1, d2] => { results := [.lit (.bool false)], args := [d1, d2] }
  | _ => none }
def NestRangesWrongFalsely : Prop := nestRangesRow.holds Try.pinned (OpenSpec.ofChange nestRangesWrong)

/-- 'pianolalaw16.NestJoins': WHATEVER THE INPUT: true; the input reads as it did. -/
def nestJoinsSpec : ChangeSpec := { name := "nestJoins", fn := fun _ => fun
  | [d1, d2] => { results := [.lit (.bool true)], args := [d1, d2] }
  | _ => none }
def nestJoinsRow : OpenClaim := { program := "ythgmdaaiolgjlaa", sum := "26735a1401dfd02bf0275ba208747cacd5f8e0c4136f4c4235c9973bfed181a3", func := "pianola/pianolalaw16.NestJoins", spec := "nestJoins", unfollowed := true, recurses := true, loops := true, apart := false }
def NestJoinsSaid : Prop := nestJoinsRow.holds Try.pinned (OpenSpec.ofChange nestJoinsSpec)

/-- ITS FALSE NEIGHBOUR: 'it returns false'. Refute it at one input. -/
def nestJoinsWrong : ChangeSpec := { name := "nestJoins", fn := fun _ => fun
  | [d1, d2] => { results := [.lit (.bool false)], args := [d1, d2] }
  | _ => none }
def NestJoinsWrongFalsely : Prop := nestJoinsRow.holds Try.pinned (OpenSpec.ofChange nestJoinsWrong)

/-- 'pianolalaw16.NestRound': WHATEVER THE INPUT: true; the input reads as it did. -/
def nestRoundSpec : ChangeSpec := { name := "nestRound", fn := fun _ => fun
  | [d1, d2] => { results := [.lit (.bool true)], args := [d1, d2] }
  | _ => none }
def nestRoundRow : OpenClaim := { program := "ythgmdaaiolgjlaa", sum := "26735a1401dfd02bf0275ba208747cacd5f8e0c4136f4c4235c9973bfed181a3", func := "pianola/pianolalaw16.NestRound", spec := "nestRound", unfollowed := true, recurses := true, loops := true, apart := false }
def NestRoundSaid : Prop := nestRoundRow.holds Try.pinned (OpenSpec.ofChange nestRoundSpec)

/-- ITS FALSE NEIGHBOUR: 'it returns false'. Refute it at one input. -/
def nestRoundWrong : ChangeSpec := { name := "nestRound", fn := fun _ => fun
  | [d1, d2] => { results := [.lit (.bool false)], args := [d1, d2] }
  | _ => none }
def NestRoundWrongFalsely : Prop := nestRoundRow.holds Try.pinned (OpenSpec.ofChange nestRoundWrong)

/- THE SECOND FORM. 'bulk': how many values and letters a reading holds, each counted each time it is reached (what is shared counts as often as it is met; a slice's spare places count too). A statement '..UptoSaid' is the law's where the arguments, and the package variables that the reading takes, are together of bulk at most 1048576: NARROWER than '..Said'. Prove '..Said' where nothing that the law and all that it calls make is longer than what came in: it says more and counts as full. Else prove '..UptoSaid'. A law counts once. -/
mutual
def uptoBulk {H : Type} : DataW H → Nat
  | .lit (.string bytes) => bytes.length + 1
  | .lit _ => 1
  | .nil => 1
  | .ptr d => uptoBulk d + 1
  | .slice elems spare => uptoBulkAll elems + uptoBulkAll spare + 1
  | .agg parts => uptoBulkAll parts + 1
  | .iface _ d => uptoBulk d + 1
  | .map entries => uptoBulkEntries entries + 1
  | .held _ => 1
def uptoBulkAll {H : Type} : List (DataW H) → Nat
  | [] => 0
  | d :: r => uptoBulk d + uptoBulkAll r
def uptoBulkEntries {H : Type} : List (Lit × DataW H) → Nat
  | [] => 0
  | x :: r => uptoBulkEntry x + uptoBulkEntries r
def uptoBulkEntry {H : Type} : Lit × DataW H → Nat
  | (.string bytes, d) => bytes.length + uptoBulk d + 1
  | (_, d) => uptoBulk d + 1
 end
def uptoSmall : (H : Type) → List (DataW H) → Bool := fun _ ds => decide (uptoBulkAll ds ≤ 1048576)
def OpenSpec.upto (s : _root_.Go.ChangeSpec) : _root_.Go.OpenSpec := { _root_.Go.OpenSpec.ofChange s with cond := some uptoSmall }

/-- 'pianolalaw16.NestChecks', WHERE WHAT IT READS IS OF BULK AT MOST 1048576: true; the input reads as it did. -/
def nestChecksUptoRow : OpenClaim := { program := "ythgmdaaiolgjlaa", sum := "26735a1401dfd02bf0275ba208747cacd5f8e0c4136f4c4235c9973bfed181a3", func := "pianola/pianolalaw16.NestChecks", spec := "nestChecks", unfollowed := true, recurses := true, loops := true, apart := false, narrowed := true }
def NestChecksUptoSaid : Prop := nestChecksUptoRow.holds Try.pinned (OpenSpec.upto nestChecksSpec)

/-- 'pianolalaw16.NestMeasures', WHERE WHAT IT READS IS OF BULK AT MOST 1048576: true; the input reads as it did. -/
def nestMeasuresUptoRow : OpenClaim := { program := "ythgmdaaiolgjlaa", sum := "26735a1401dfd02bf0275ba208747cacd5f8e0c4136f4c4235c9973bfed181a3", func := "pianola/pianolalaw16.NestMeasures", spec := "nestMeasures", unfollowed := true, recurses := true, loops := true, apart := false, narrowed := true }
def NestMeasuresUptoSaid : Prop := nestMeasuresUptoRow.holds Try.pinned (OpenSpec.upto nestMeasuresSpec)

/-- 'pianolalaw16.NestExpands', WHERE WHAT IT READS IS OF BULK AT MOST 1048576: true; the input reads as it did. -/
def nestExpandsUptoRow : OpenClaim := { program := "ythgmdaaiolgjlaa", sum := "26735a1401dfd02bf0275ba208747cacd5f8e0c4136f4c4235c9973bfed181a3", func := "pianola/pianolalaw16.NestExpands", spec := "nestExpands", unfollowed := true, recurses := true, loops := true, apart := false, narrowed := true }
def NestExpandsUptoSaid : Prop := nestExpandsUptoRow.holds Try.pinned (OpenSpec.upto nestExpandsSpec)

/-- 'pianolalaw16.NestRanges', WHERE WHAT IT READS IS OF BULK AT MOST 1048576: true; the input reads as it did. -/
def nestRangesUptoRow : OpenClaim := { program := "ythgmdaaiolgjlaa", sum := "26735a1401dfd02bf0275ba208747cacd5f8e0c4136f4c4235c9973bfed181a3", func := "pianola/pianolalaw16.NestRanges", spec := "nestRanges", unfollowed := true, recurses := true, loops := true, apart := false, narrowed := true }
def NestRangesUptoSaid : Prop := nestRangesUptoRow.holds Try.pinned (OpenSpec.upto nestRangesSpec)

/-- 'pianolalaw16.NestJoins', WHERE WHAT IT READS IS OF BULK AT MOST 1048576: true; the input reads as it did. -/
def nestJoinsUptoRow : OpenClaim := { program := "ythgmdaaiolgjlaa", sum := "26735a1401dfd02bf0275ba208747cacd5f8e0c4136f4c4235c9973bfed181a3", func := "pianola/pianolalaw16.NestJoins", spec := "nestJoins", unfollowed := true, recurses := true, loops := true, apart := false, narrowed := true }
def NestJoinsUptoSaid : Prop := nestJoinsUptoRow.holds Try.pinned (OpenSpec.upto nestJoinsSpec)

/-- 'pianolalaw16.NestRound', WHERE WHAT IT READS IS OF BULK AT MOST 1048576: true; the input reads as it did. -/
def nestRoundUptoRow : OpenClaim := { program := "ythgmdaaiolgjlaa", sum := "26735a1401dfd02bf0275ba208747cacd5f8e0c4136f4c4235c9973bfed181a3", func := "pianola/pianolalaw16.NestRound", spec := "nestRound", unfollowed := true, recurses := true, loops := true, apart := false, narrowed := true }
def NestRoundUptoSaid : Prop := nestRoundUptoRow.holds Try.pinned (OpenSpec.upto nestRoundSpec)

end Rows
end Go.Proofs.Ythgmdaaiolgjlaa
