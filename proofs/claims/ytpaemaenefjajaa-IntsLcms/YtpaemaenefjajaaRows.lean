/-
  No cell of these rows narrows 'for every input' (looked for: loops, veiled, ifaces, maps, wideKeys, modest, calm, conditions, laid).
  DERIVED. THE GIVEN ROWS OF THIS SEAT. 6 by the template 'for every input the law returns true; each argument reads behind the call as it read before'; 0 by the template 'total and deterministic' (their statements: YtpaemaenefjajaaTotals.lean).
  GIVEN WITH THE SEED: the statements are not yours to turn. If you find one false, say at which input.
  Laid BY PROGRAM, IN A SANDBOX (cutbox-rows.mjs): the forced cells as the released guide's own fill.sh prints them over the translation 5a7e55fd21034fcf… (all of the seat's roots in one cut). By AI agents, Wed Nov 11 2026. No macro, syntax, notation, axiom, sorry.
-/
import Derived.Test.YtpaemaenefjajaaChecked
import GoSem.Claim
import GoSem.ClaimJoined
import GoSem.ClaimMapViews
import Derived.JoinedTies
import Derived.KernelRfl
namespace Go.Proofs.Ytpaemaenefjajaa
/- THE CELL 'sum', in the pinned program and in every row, IS THE sha256 OF THE DUMP (.gsa) THAT YtpaemaenefjajaaProg.lean LOADS. Nothing in Lean hashes anything: it is a label: what it is worth is what the hold of that sum in a sandbox is worth. -/
noncomputable def Try.pinned : Pinned := { name := "ytpaemaenefjajaa", sum := "5a7e55fd21034fcf64d8ac73caacda39b654d80f7df360f1cd7695a1bae79d40", checked := Try.checked }
namespace Rows
def none {H : Type} : Left H := { results := [], args := [] }

/-- 'pianolalaw01.IntsAdds': WHATEVER THE INPUT: true; the input reads as it did. -/
def intsAddsSpec : ChangeSpec := { name := "intsAdds", fn := fun _ => fun
  | [d1, d2] => { results := [.lit (.bool true)], args := [d1, d2] }
  | _ => none }
def intsAddsRow : OpenClaim := { program := "ytpaemaenefjajaa", sum := "5a7e55fd21034fcf64d8ac73caacda39b654d80f7df360f1cd7695a1bae79d40", func := "pianola/pianolalaw01.IntsAdds", spec := "intsAdds", apart := false }
def IntsAddsSaid : Prop := intsAddsRow.holds Try.pinned (OpenSpec.ofChange intsAddsSpec)

/-- ITS FALSE NEIGHBOUR: 'it returns false'. Refute it at one input. -/
def intsAddsWrong : ChangeSpec := { name := "intsAdds", fn := fun _ => fun
  | [d1, d2] => { results := [.lit (.bool false)], args := [d1, d2] }
  | _ => none }
def IntsAddsWrongFalsely : Prop := intsAddsRow.holds Try.pinned (OpenSpec.ofChange intsAddsWrong)

/-- 'pianolalaw01.IntsSums': WHATEVER THE INPUT: true; the input reads as it did. -/
def intsSumsSpec : ChangeSpec := { name := "intsSums", fn := fun _ => fun
  | [d] => { results := [.lit (.bool true)], args := [d] }
  | _ => none }
def intsSumsRow : OpenClaim := { program := "ytpaemaenefjajaa", sum := "5a7e55fd21034fcf64d8ac73caacda39b654d80f7df360f1cd7695a1bae79d40", func := "pianola/pianolalaw01.IntsSums", spec := "intsSums", apart := false }
def IntsSumsSaid : Prop := intsSumsRow.holds Try.pinned (OpenSpec.ofChange intsSumsSpec)

/-- ITS FALSE NEIGHBOUR: 'it returns false'. Refute it at one input. -/
def intsSumsWrong : ChangeSpec := { name := "intsSums", fn := fun _ => fun
  | [d] => { results := [.lit (.bool false)], args := [d] }
  | _ => none }
def IntsSumsWrongFalsely : Prop := intsSumsRow.holds Try.pinned (OpenSpec.ofChange intsSumsWrong)

/-- 'pianolalaw01.IntsGcds': WHATEVER THE INPUT: true; the input reads as it did. -/
def intsGcdsSpec : ChangeSpec := { name := "intsGcds", fn := fun _ => fun
  | [d] => { results := [.lit (.bool true)], args := [d] }
  | _ => none }
def intsGcdsRow : OpenClaim := { program := "ytpaemaenefjajaa", sum := "5a7e55fd21034fcf64d8ac73caacda39b654d80f7df360f1cd7695a1bae79d40", func := "pianola/pianolalaw01.IntsGcds", spec := "intsGcds", apart := false }
def IntsGcdsSaid : Prop := intsGcdsRow.holds Try.pinned (OpenSpec.ofChange intsGcdsSpec)

/-- ITS FALSE NEIGHBOUR: 'it returns false'. Refute it at one input. -/
def intsGcdsWrong : ChangeSpec := { name := "intsGcds", fn := fun _ => fun
  | [d] => { results := [.lit (.bool false)], args := [d] }
  | _ => none }
def IntsGcdsWrongFalsely : Prop := intsGcdsRow.holds Try.pinned (OpenSpec.ofChange intsGcdsWrong)

/-- 'pianolalaw01.IntsLcms': WHATEVER THE INPUT: true; the input reads as it did. -/
def intsLcmsSpec : ChangeSpec := { name := "intsLcms", fn := fun _ => fun
  | [d] => { results := [.lit (.bool true)], args := [d] }
  | _ => none }
def intsLcmsRow : OpenClaim := { program := "ytpaemaenefjajaa", sum := "5a7e55fd21034fcf64d8ac73caacda39b654d80f7df360f1cd7695a1bae79d40", func := "pianola/pianolalaw01.IntsLcms", spec := "intsLcms", apart := false }
def IntsLcmsSaid : Prop := intsLcmsRow.holds Try.pinned (OpenSpec.ofChange intsLcmsSpec)

/-- ITS FALSE NEIGHBOUR: 'it returns false'. Refute it at one input. -/
def intsLcmsWrong : ChangeSpec := { name := "intsLcms", fn := fun _ => fun
  | [d] => { results := [.lit (.bool false)], args := [d] }
  | _ => none }
def IntsLcmsWrongFalsely : Prop := intsLcmsRow.holds Try.pinned (OpenSpec.ofChange intsLcmsWrong)

/-- 'pianolalaw01.IntsDots': WHATEVER THE INPUT: true; the input reads as it did. -/
def intsDotsSpec : ChangeSpec := { name := "intsDots", fn := fun _ => fun
  | [d1, d2] => { results := [.lit (.bool true)], args := [d1, d2] }
  | _ => none }
def intsDotsRow : OpenClaim := { program := "ytpaemaenefjajaa", sum := "5a7e55fd21034fcf64d8ac73caacda39b654d80f7df360f1cd7695a1bae79d40", func := "pianola/pianolalaw01.IntsDots", spec := "intsDots", apart := false }
def IntsDotsSaid : Prop := intsDotsRow.holds Try.pinned (OpenSpec.ofChange intsDotsSpec)

/-- ITS FALSE NEIGHBOUR: 'it returns false'. Refute it at one input. -/
def intsDotsWrong : ChangeSpec := { name := "intsDots", fn := fun _ => fun
  | [d1, d2] => { results := [.lit (.bool false)], args := [d1, d2] }
  | _ => none }
def IntsDotsWrongFalsely : Prop := intsDotsRow.holds Try.pinned (OpenSpec.ofChange intsDotsWrong)

/-- 'pianolalaw01.IntsBack': WHATEVER THE INPUT: true; the input reads as it did. -/
def intsBackSpec : ChangeSpec := { name := "intsBack", fn := fun _ => fun
  | [d1, d2, d3] => { results := [.lit (.bool true)], args := [d1, d2, d3] }
  | _ => none }
def intsBackRow : OpenClaim := { program := "ytpaemaenefjajaa", sum := "5a7e55fd21034fcf64d8ac73caacda39b654d80f7df360f1cd7695a1bae79d40", func := "pianola/pianolalaw01.IntsBack", spec := "intsBack", apart := false }
def IntsBackSaid : Prop := intsBackRow.holds Try.pinned (OpenSpec.ofChange intsBackSpec)

/-- ITS FALSE NEIGHBOUR: 'it returns false'. Refute it at one input. -/
def intsBackWrong : ChangeSpec := { name := "intsBack", fn := fun _ => fun
  | [d1, d2, d3] => { results := [.lit (.bool false)], args := [d1, d2, d3] }
  | _ => none }
def IntsBackWrongFalsely : Prop := intsBackRow.holds Try.pinned (OpenSpec.ofChange intsBackWrong)

/- THE SECOND FORM. 'bulk': how many values and letters a reading holds, each counted each time it is reached (what is shared counts as often as it is met; a slice's spare places count too). A statement '..UptoSaid' is the law's where the arguments, and the package variables that the reading takes, are together of bulk at most 1048576: NARROWER than '..Said'. Prove '..Said' where nothing that the law and all that it calls make is longer than what came in: it says more and counts as full. Else prove '..UptoSaid'. A law counts once. -/
mutual
def uptoBulk {H : Type} : DataW H → Nat
  | .lit (.string bytes) => bytes.length + 1
  | .lit _ => 1
  | .nil => 1
  | .ptr d => uptoBulk d + 1
  | .slice elems spare => uptoBulkAll elems + uptoBulkAll spare + 1
  | .agg parts => uptoBulkAll parts + 1
  | .iface _ d => uptoBulk d + 1
  | .map entries => uptoBulkEntries entries + 1
  | .held _ => 1
def uptoBulkAll {H : Type} : List (DataW H) → Nat
  | [] => 0
  | d :: r => uptoBulk d + uptoBulkAll r
def uptoBulkEntries {H : Type} : List (Lit × DataW H) → Nat
  | [] => 0
  | x :: r => uptoBulkEntry x + uptoBulkEntries r
def uptoBulkEntry {H : Type} : Lit × DataW H → Nat
  | (.string bytes, d) => bytes.length + uptoBulk d + 1
  | (_, d) => uptoBulk d + 1
 end
def uptoSmall : (H : Type) → List (DataW H) → Bool := fun _ ds => decide (uptoBulkAll ds ≤ 1048576)
def OpenSpec.upto (s : _root_.Go.ChangeSpec) : _root_.Go.OpenSpec := { _root_.Go.OpenSpec.ofChange s with cond := some uptoSmall }

/-- 'pianolalaw01.IntsAdds', WHERE WHAT IT READS IS OF BULK AT MOST 1048576: true; the input reads as it did. -/
def intsAddsUptoRow : OpenClaim := { program := "ytpaemaenefjajaa", sum := "5a7e55fd21034fcf64d8ac73caacda39b654d80f7df360f1cd7695a1bae79d40", func := "pianola/pianolalaw01.IntsAdds", spec := "intsAdds", apart := false, narrowed := true }
def IntsAddsUptoSaid : Prop := intsAddsUptoRow.holds Try.pinned (OpenSpec.upto intsAddsSpec)

/-- 'pianolalaw01.IntsSums', WHERE WHAT IT READS IS OF BULK AT MOST 1048576: true; the input reads as it did. -/
def intsSumsUptoRow : OpenClaim := { program := "ytpaemaenefjajaa", sum := "5a7e55fd21034fcf64d8ac73caacda39b654d80f7df360f1cd7695a1bae79d40", func := "pianola/pianolalaw01.IntsSums", spec := "intsSums", apart := false, narrowed := true }
def IntsSumsUptoSaid : Prop := intsSumsUptoRow.holds Try.pinned (OpenSpec.upto intsSumsSpec)

/-- 'pianolalaw01.IntsGcds', WHERE WHAT IT READS IS OF BULK AT MOST 1048576: true; the input reads as it did. -/
def intsGcdsUptoRow : OpenClaim := { program := "ytpaemaenefjajaa", sum := "5a7e55fd21034fcf64d8ac73caacda39b654d80f7df360f1cd7695a1bae79d40", func := "pianola/pianolalaw01.IntsGcds", spec := "intsGcds", apart := false, narrowed := true }
def IntsGcdsUptoSaid : Prop := intsGcdsUptoRow.holds Try.pinned (OpenSpec.upto intsGcdsSpec)

/-- 'pianolalaw01.IntsLcms', WHERE WHAT IT READS IS OF BULK AT MOST 1048576: true; the input reads as it did. -/
def intsLcmsUptoRow : OpenClaim := { program := "ytpaemaenefjajaa", sum := "5a7e55fd21034fcf64d8ac73caacda39b654d80f7df360f1cd7695a1bae79d40", func := "pianola/pianolalaw01.IntsLcms", spec := "intsLcms", apart := false, narrowed := true }
def IntsLcmsUptoSaid : Prop := intsLcmsUptoRow.holds Try.pinned (OpenSpec.upto intsLcmsSpec)

/-- 'pianolalaw01.IntsDots', WHERE WHAT IT READS IS OF BULK AT MOST 1048576: true; the input reads as it did. -/
def intsDotsUptoRow : OpenClaim := { program := "ytpaemaenefjajaa", sum := "5a7e55fd21034fcf64d8ac73caacda39b654d80f7df360f1cd7695a1bae79d40", func := "pianola/pianolalaw01.IntsDots", spec := "intsDots", apart := false, narrowed := true }
def IntsDotsUptoSaid : Prop := intsDotsUptoRow.holds Try.pinned (OpenSpec.upto intsDotsSpec)

/-- 'pianolalaw01.IntsBack', WHERE WHAT IT READS IS OF BULK AT MOST 1048576: true; the input reads as it did. -/
def intsBackUptoRow : OpenClaim := { program := "ytpaemaenefjajaa", sum := "5a7e55fd21034fcf64d8ac73caacda39b654d80f7df360f1cd7695a1bae79d40", func := "pianola/pianolalaw01.IntsBack", spec := "intsBack", apart := false, narrowed := true }
def IntsBackUptoSaid : Prop := intsBackUptoRow.holds Try.pinned (OpenSpec.upto intsBackSpec)

end Rows
end Go.Proofs.Ytpaemaenefjajaa
