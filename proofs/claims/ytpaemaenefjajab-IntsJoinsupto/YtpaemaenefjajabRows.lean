/-
  No cell of these rows narrows 'for every input' (looked for: loops, veiled, ifaces, maps, wideKeys, modest, calm, conditions, laid).
  DERIVED. THE GIVEN ROWS OF THIS SEAT. 5 by the template 'for every input the law returns true; each argument reads behind the call as it read before'; 0 by the template 'total and deterministic' (their statements: YtpaemaenefjajabTotals.lean).
  GIVEN WITH THE SEED: the statements are not yours to turn. If you find one false, say at which input.
  Laid BY PROGRAM, IN A SANDBOX (cutbox-rows.mjs): the forced cells as the released guide's own fill.sh prints them over the translation 72fcf8ceb19fa193… (all of the seat's roots in one cut). By AI agents, Wed Nov 11 2026. No macro, syntax, notation, axiom, sorry.
-/
import Derived.Test.YtpaemaenefjajabChecked
import GoSem.Claim
import GoSem.ClaimJoined
import GoSem.ClaimMapViews
import Derived.JoinedTies
import Derived.KernelRfl
namespace Go.Proofs.Ytpaemaenefjajab
/- THE CELL 'sum', in the pinned program and in every row, IS THE sha256 OF THE DUMP (.gsa) THAT YtpaemaenefjajabProg.lean LOADS. Nothing in Lean hashes anything: it is a label: what it is worth is what the hold of that sum in a sandbox is worth. -/
noncomputable def Try.pinned : Pinned := { name := "ytpaemaenefjajab", sum := "72fcf8ceb19fa193de6a0e9148d2a1683bf32e6307d72f099dbc0a9115f10014", checked := Try.checked }
namespace Rows
def none {H : Type} : Left H := { results := [], args := [] }

/-- 'pianolalaw01.IntsDivides': WHATEVER THE INPUT: true; the input reads as it did. -/
def intsDividesSpec : ChangeSpec := { name := "intsDivides", fn := fun _ => fun
  | [d1, d2] => { results := [.lit (.bool true)], args := [d1, d2] }
  | _ => none }
def intsDividesRow : OpenClaim := { program := "ytpaemaenefjajab", sum := "72fcf8ceb19fa193de6a0e9148d2a1683bf32e6307d72f099dbc0a9115f10014", func := "pianola/pianolalaw01.IntsDivides", spec := "intsDivides", apart := false }
def IntsDividesSaid : Prop := intsDividesRow.holds Try.pinned (OpenSpec.ofChange intsDividesSpec)

/-- ITS FALSE NEIGHBOUR: 'it returns false'. Refute it at one input. -/
def intsDividesWrong : ChangeSpec := { name := "intsDivides", fn := fun _ => fun
  | [d1, d2] => { results := [.lit (.bool false)], args := [d1, d2] }
  | _ => none }
def IntsDividesWrongFalsely : Prop := intsDividesRow.holds Try.pinned (OpenSpec.ofChange intsDividesWrong)

/-- 'pianolalaw01.IntsMultiple': WHATEVER THE INPUT: true; the input reads as it did. -/
def intsMultipleSpec : ChangeSpec := { name := "intsMultiple", fn := fun _ => fun
  | [d1, d2] => { results := [.lit (.bool true)], args := [d1, d2] }
  | _ => none }
def intsMultipleRow : OpenClaim := { program := "ytpaemaenefjajab", sum := "72fcf8ceb19fa193de6a0e9148d2a1683bf32e6307d72f099dbc0a9115f10014", func := "pianola/pianolalaw01.IntsMultiple", spec := "intsMultiple", apart := false }
def IntsMultipleSaid : Prop := intsMultipleRow.holds Try.pinned (OpenSpec.ofChange intsMultipleSpec)

/-- ITS FALSE NEIGHBOUR: 'it returns false'. Refute it at one input. -/
def intsMultipleWrong : ChangeSpec := { name := "intsMultiple", fn := fun _ => fun
  | [d1, d2] => { results := [.lit (.bool false)], args := [d1, d2] }
  | _ => none }
def IntsMultipleWrongFalsely : Prop := intsMultipleRow.holds Try.pinned (OpenSpec.ofChange intsMultipleWrong)

/-- 'pianolalaw01.IntsJoins': WHATEVER THE INPUT: true; the input reads as it did. -/
def intsJoinsSpec : ChangeSpec := { name := "intsJoins", fn := fun _ => fun
  | [d1, d2] => { results := [.lit (.bool true)], args := [d1, d2] }
  | _ => none }
def intsJoinsRow : OpenClaim := { program := "ytpaemaenefjajab", sum := "72fcf8ceb19fa193de6a0e9148d2a1683bf32e6307d72f099dbc0a9115f10014", func := "pianola/pianolalaw01.IntsJoins", spec := "intsJoins", apart := false }
def IntsJoinsSaid : Prop := intsJoinsRow.holds Try.pinned (OpenSpec.ofChange intsJoinsSpec)

/-- ITS FALSE NEIGHBOUR: 'it returns false'. Refute it at one input. -/
def intsJoinsWrong : ChangeSpec := { name := "intsJoins", fn := fun _ => fun
  | [d1, d2] => { results := [.lit (.bool false)], args := [d1, d2] }
  | _ => none }
def IntsJoinsWrongFalsely : Prop := intsJoinsRow.holds Try.pinned (OpenSpec.ofChange intsJoinsWrong)

/-- 'pianolalaw01.IntsProduct': WHATEVER THE INPUT: true; the input reads as it did. -/
def intsProductSpec : ChangeSpec := { name := "intsProduct", fn := fun _ => fun
  | [d1, d2] => { results := [.lit (.bool true)], args := [d1, d2] }
  | _ => none }
def intsProductRow : OpenClaim := { program := "ytpaemaenefjajab", sum := "72fcf8ceb19fa193de6a0e9148d2a1683bf32e6307d72f099dbc0a9115f10014", func := "pianola/pianolalaw01.IntsProduct", spec := "intsProduct", apart := false }
def IntsProductSaid : Prop := intsProductRow.holds Try.pinned (OpenSpec.ofChange intsProductSpec)

/-- ITS FALSE NEIGHBOUR: 'it returns false'. Refute it at one input. -/
def intsProductWrong : ChangeSpec := { name := "intsProduct", fn := fun _ => fun
  | [d1, d2] => { results := [.lit (.bool false)], args := [d1, d2] }
  | _ => none }
def IntsProductWrongFalsely : Prop := intsProductRow.holds Try.pinned (OpenSpec.ofChange intsProductWrong)

/-- 'pianolalaw01.IntsNames': WHATEVER THE INPUT: true; the input reads as it did. -/
def intsNamesSpec : ChangeSpec := { name := "intsNames", fn := fun _ => fun
  | [] => { results := [.lit (.bool true)], args := [] }
  | _ => none }
def intsNamesRow : OpenClaim := { program := "ytpaemaenefjajab", sum := "72fcf8ceb19fa193de6a0e9148d2a1683bf32e6307d72f099dbc0a9115f10014", func := "pianola/pianolalaw01.IntsNames", spec := "intsNames", apart := false }
def IntsNamesSaid : Prop := intsNamesRow.holds Try.pinned (OpenSpec.ofChange intsNamesSpec)

/-- ITS FALSE NEIGHBOUR: 'it returns false'. Refute it at one input. -/
def intsNamesWrong : ChangeSpec := { name := "intsNames", fn := fun _ => fun
  | [] => { results := [.lit (.bool false)], args := [] }
  | _ => none }
def IntsNamesWrongFalsely : Prop := intsNamesRow.holds Try.pinned (OpenSpec.ofChange intsNamesWrong)

/- THE SECOND FORM. 'bulk': how many values and letters a reading holds, each counted each time it is reached (what is shared counts as often as it is met; a slice's spare places count too). A statement '..UptoSaid' is the law's where the arguments, and the package variables that the reading takes, are together of bulk at most 1048576: NARROWER than '..Said'. Prove '..Said' where nothing that the law and all that it calls make is longer than what came in: it says more and counts as full. Else prove '..UptoSaid'. A law counts once. -/
mutual
def uptoBulk {H : Type} : DataW H → Nat
  | .lit (.string bytes) => bytes.length + 1
  | .lit _ => 1
  | .nil => 1
  | .ptr d => uptoBulk d + 1
  | .slice elems spare => uptoBulkAll elems + uptoBulkAll spare + 1
  | .agg parts => uptoBulkAll parts + 1
  | .iface _ d => uptoBulk d + 1
  | .map entries => uptoBulkEntries entries + 1
  | .held _ => 1
def uptoBulkAll {H : Type} : List (DataW H) → Nat
  | [] => 0
  | d :: r => uptoBulk d + uptoBulkAll r
def uptoBulkEntries {H : Type} : List (Lit × DataW H) → Nat
  | [] => 0
  | x :: r => uptoBulkEntry x + uptoBulkEntries r
def uptoBulkEntry {H : Type} : Lit × DataW H → Nat
  | (.string bytes, d) => bytes.length + uptoBulk d + 1
  | (_, d) => uptoBulk d + 1
 end
def uptoSmall : (H : Type) → List (DataW H) → Bool := fun _ ds => decide (uptoBulkAll ds ≤ 1048576)
def OpenSpec.upto (s : _root_.Go.ChangeSpec) : _root_.Go.OpenSpec := { _root_.Go.OpenSpec.ofChange s with cond := some uptoSmall }

/-- 'pianolalaw01.IntsDivides', WHERE WHAT IT READS IS OF BULK AT MOST 1048576: true; the input reads as it did. -/
def intsDividesUptoRow : OpenClaim := { program := "ytpaemaenefjajab", sum := "72fcf8ceb19fa193de6a0e9148d2a1683bf32e6307d72f099dbc0a9115f10014", func := "pianola/pianolalaw01.IntsDivides", spec := "intsDivides", apart := false, narrowed := true }
def IntsDividesUptoSaid : Prop := intsDividesUptoRow.holds Try.pinned (OpenSpec.upto intsDividesSpec)

/-- 'pianolalaw01.IntsMultiple', WHERE WHAT IT READS IS OF BULK AT MOST 1048576: true; the input reads as it did. -/
def intsMultipleUptoRow : OpenClaim := { program := "ytpaemaenefjajab", sum := "72fcf8ceb19fa193de6a0e9148d2a1683bf32e6307d72f099dbc0a9115f10014", func := "pianola/pianolalaw01.IntsMultiple", spec := "intsMultiple", apart := false, narrowed := true }
def IntsMultipleUptoSaid : Prop := intsMultipleUptoRow.holds Try.pinned (OpenSpec.upto intsMultipleSpec)

/-- 'pianolalaw01.IntsJoins', WHERE WHAT IT READS IS OF BULK AT MOST 1048576: true; the input reads as it did. -/
def intsJoinsUptoRow : OpenClaim := { program := "ytpaemaenefjajab", sum := "72fcf8ceb19fa193de6a0e9148d2a1683bf32e6307d72f099dbc0a9115f10014", func := "pianola/pianolalaw01.IntsJoins", spec := "intsJoins", apart := false, narrowed := true }
def IntsJoinsUptoSaid : Prop := intsJoinsUptoRow.holds Try.pinned (OpenSpec.upto intsJoinsSpec)

/-- 'pianolalaw01.IntsProduct', WHERE WHAT IT READS IS OF BULK AT MOST 1048576: true; the input reads as it did. -/
def intsProductUptoRow : OpenClaim := { program := "ytpaemaenefjajab", sum := "72fcf8ceb19fa193de6a0e9148d2a1683bf32e6307d72f099dbc0a9115f10014", func := "pianola/pianolalaw01.IntsProduct", spec := "intsProduct", apart := false, narrowed := true }
def IntsProductUptoSaid : Prop := intsProductUptoRow.holds Try.pinned (OpenSpec.upto intsProductSpec)

/-- 'pianolalaw01.IntsNames', WHERE WHAT IT READS IS OF BULK AT MOST 1048576: true; the input reads as it did. -/
def intsNamesUptoRow : OpenClaim := { program := "ytpaemaenefjajab", sum := "72fcf8ceb19fa193de6a0e9148d2a1683bf32e6307d72f099dbc0a9115f10014", func := "pianola/pianolalaw01.IntsNames", spec := "intsNames", apart := false, narrowed := true }
def IntsNamesUptoSaid : Prop := intsNamesUptoRow.holds Try.pinned (OpenSpec.upto intsNamesSpec)

end Rows
end Go.Proofs.Ytpaemaenefjajab
