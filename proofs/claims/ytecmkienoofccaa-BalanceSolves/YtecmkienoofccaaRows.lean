/-
  No cell of these rows narrows 'for every input' (looked for: loops, veiled, ifaces, maps, wideKeys, modest, calm, conditions, laid).
  DERIVED. THE GIVEN ROWS OF THIS SEAT. 6 by the template 'for every input the law returns true; each argument reads behind the call as it read before'; 0 by the template 'total and deterministic' (their statements: YtecmkienoofccaaTotals.lean).
  GIVEN WITH THE SEED: the statements are not yours to turn. If you find one false, say at which input.
  Laid BY PROGRAM, IN A SANDBOX (cutbox-rows.mjs): the forced cells as the released guide's own fill.sh prints them over the translation b76e1da6031dd696… (all of the seat's roots in one cut). By AI agents, Wed Nov 11 2026. No macro, syntax, notation, axiom, sorry.
-/
import Derived.Test.YtecmkienoofccaaChecked
import GoSem.Claim
import GoSem.ClaimJoined
import GoSem.ClaimMapViews
import Derived.JoinedTies
import Derived.KernelRfl
namespace Go.Proofs.Ytecmkienoofccaa
/- THE CELL 'sum', in the pinned program and in every row, IS THE sha256 OF THE DUMP (.gsa) THAT YtecmkienoofccaaProg.lean LOADS. Nothing in Lean hashes anything: it is a label: what it is worth is what the hold of that sum in a sandbox is worth. -/
noncomputable def Try.pinned : Pinned := { name := "ytecmkienoofccaa", sum := "b76e1da6031dd6969a81c45f56ab47321598cd7d2009ebf049cc0377b6ae533f", checked := Try.checked }
namespace Rows
def none {H : Type} : Left H := { results := [], args := [] }

/-- 'pianolalaw13.BalanceHolds': WHATEVER THE INPUT: true; the input reads as it did. -/
def balanceHoldsSpec : ChangeSpec := { name := "balanceHolds", fn := fun _ => fun
  | [d1, d2] => { results := [.lit (.bool true)], args := [d1, d2] }
  | _ => none }
def balanceHoldsRow : OpenClaim := { program := "ytecmkienoofccaa", sum := "b76e1da6031dd6969a81c45f56ab47321598cd7d2009ebf049cc0377b6ae533f", func := "pianola/pianolalaw13.BalanceHolds", spec := "balanceHolds", unfollowed := true, recurses := true, apart := false }
def BalanceHoldsSaid : Prop := balanceHoldsRow.holds Try.pinned (OpenSpec.ofChange balanceHoldsSpec)

/-- ITS FALSE NEIGHBOUR: 'it returns false'. Refute it at one input. -/
def balanceHoldsWrong : ChangeSpec := { name := "balanceHolds", fn := fun _ => fun
  | [d1, d2] => { results := [.lit (.bool false)], args := [d1, d2] }
  | _ => none }
def BalanceHoldsWrongFalsely : Prop := balanceHoldsRow.holds Try.pinned (OpenSpec.ofChange balanceHoldsWrong)

/-- 'pianolalaw13.BalanceSolves': WHATEVER THE INPUT: true; the input reads as it did. -/
def balanceSolvesSpec : ChangeSpec := { name := "balanceSolves", fn := fun _ => fun
  | [d] => { results := [.lit (.bool true)], args := [d] }
  | _ => none }
def balanceSolvesRow : OpenClaim := { program := "ytecmkienoofccaa", sum := "b76e1da6031dd6969a81c45f56ab47321598cd7d2009ebf049cc0377b6ae533f", func := "pianola/pianolalaw13.BalanceSolves", spec := "balanceSolves", unfollowed := true, recurses := true, apart := false }
def BalanceSolvesSaid : Prop := balanceSolvesRow.holds Try.pinned (OpenSpec.ofChange balanceSolvesSpec)

/-- ITS FALSE NEIGHBOUR: 'it returns false'. Refute it at one input. -/
def balanceSolvesWrong : ChangeSpec := { name := "balanceSolves", fn := fun _ => fun
  | [d] => { results := [.lit (.bool false)], args := [d] }
  | _ => none }
def BalanceSolvesWrongFalsely : Prop := balanceSolvesRow.holds Try.pinned (OpenSpec.ofChange balanceSolvesWrong)

/-- 'pianolalaw13.BalanceOne': WHATEVER THE INPUT: true; the input reads as it did. -/
def balanceOneSpec : ChangeSpec := { name := "balanceOne", fn := fun _ => fun
  | [d] => { results := [.lit (.bool true)], args := [d] }
  | _ => none }
def balanceOneRow : OpenClaim := { program := "ytecmkienoofccaa", sum := "b76e1da6031dd6969a81c45f56ab47321598cd7d2009ebf049cc0377b6ae533f", func := "pianola/pianolalaw13.BalanceOne", spec := "balanceOne", unfollowed := true, recurses := true, apart := false }
def BalanceOneSaid : Prop := balanceOneRow.holds Try.pinned (OpenSpec.ofChange balanceOneSpec)

/-- ITS FALSE NEIGHBOUR: 'it returns false'. Refute it at one input. -/
def balanceOneWrong : ChangeSpec := { name := "balanceOne", fn := fun _ => fun
  | [d] => { results := [.lit (.bool false)], args := [d] }
  | _ => none }
def BalanceOneWrongFalsely : Prop := balanceOneRow.holds Try.pinned (OpenSpec.ofChange balanceOneWrong)

/-- 'pianolalaw13.BalanceLeast': WHATEVER THE INPUT: true; the input reads as it did. -/
def balanceLeastSpec : ChangeSpec := { name := "balanceLeast", fn := fun _ => fun
  | [d1, d2] => { results := [.lit (.bool true)], args := [d1, d2] }
  | _ => none }
def balanceLeastRow : OpenClaim := { program := "ytecmkienoofccaa", sum := "b76e1da6031dd6969a81c45f56ab47321598cd7d2009ebf049cc0377b6ae533f", func := "pianola/pianolalaw13.BalanceLeast", spec := "balanceLeast", unfollowed := true, recurses := true, apart := false }
def BalanceLeastSaid : Prop := balanceLeastRow.holds Try.pinned (OpenSpec.ofChange balanceLeastSpec)

/-- ITS FALSE NEIGHBOUR: 'it returns false'. Refute it at one input. -/
def balanceLeastWrong : ChangeSpec := { name := "balanceLeast", fn := fun _ => fun
  | [d1, d2] => { results := [.lit (.bool false)], args := [d1, d2] }
  | _ => none }
def BalanceLeastWrongFalsely : Prop := balanceLeastRow.holds Try.pinned (OpenSpec.ofChange balanceLeastWrong)

/-- 'pianolalaw13.BalanceUnlike': WHATEVER THE INPUT: true; the input reads as it did. -/
def balanceUnlikeSpec : ChangeSpec := { name := "balanceUnlike", fn := fun _ => fun
  | [d1, d2] => { results := [.lit (.bool true)], args := [d1, d2] }
  | _ => none }
def balanceUnlikeRow : OpenClaim := { program := "ytecmkienoofccaa", sum := "b76e1da6031dd6969a81c45f56ab47321598cd7d2009ebf049cc0377b6ae533f", func := "pianola/pianolalaw13.BalanceUnlike", spec := "balanceUnlike", unfollowed := true, recurses := true, apart := false }
def BalanceUnlikeSaid : Prop := balanceUnlikeRow.holds Try.pinned (OpenSpec.ofChange balanceUnlikeSpec)

/-- ITS FALSE NEIGHBOUR: 'it returns false'. Refute it at one input. -/
def balanceUnlikeWrong : ChangeSpec := { name := "balanceUnlike", fn := fun _ => fun
  | [d1, d2] => { results := [.lit (.bool false)], args := [d1, d2] }
  | _ => none }
def BalanceUnlikeWrongFalsely : Prop := balanceUnlikeRow.holds Try.pinned (OpenSpec.ofChange balanceUnlikeWrong)

/-- 'pianolalaw13.BalanceStarts': WHATEVER THE INPUT: true; the input reads as it did. -/
def balanceStartsSpec : ChangeSpec := { name := "balanceStarts", fn := fun _ => fun
  | [d1, d2] => { results := [.lit (.bool true)], args := [d1, d2] }
  | _ => none }
def balanceStartsRow : OpenClaim := { program := "ytecmkienoofccaa", sum := "b76e1da6031dd6969a81c45f56ab47321598cd7d2009ebf049cc0377b6ae533f", func := "pianola/pianolalaw13.BalanceStarts", spec := "balanceStarts", unfollowed := true, recurses := true, apart := false }
def BalanceStartsSaid : Prop := balanceStartsRow.holds Try.pinned (OpenSpec.ofChange balanceStartsSpec)

/-- ITS FALSE NEIGHBOUR: 'it returns false'. Refute it at one input. -/
def balanceStartsWrong : ChangeSpec := { name := "balanceStarts", fn := fun _ => fun
  | [d1, d2] => { results := [.lit (.bool false)], args := [d1, d2] }
  | _ => none }
def BalanceStartsWrongFalsely : Prop := balanceStartsRow.holds Try.pinned (OpenSpec.ofChange balanceStartsWrong)

/- THE SECOND FORM. 'bulk': how many values and letters a reading holds, each counted each time it is reached (what is shared counts as often as it is met; a slice's spare places count too). A statement '..UptoSaid' is the law's where the arguments, and the package variables that the reading takes, are together of bulk at most 1048576: NARROWER than '..Said'. Prove '..Said' where nothing that the law and all that it calls make is longer than what came in: it says more and counts as full. Else prove '..UptoSaid'. A law counts once. -/
mutual
def uptoBulk {H : Type} : DataW H → Nat
  | .lit (.string bytes) => bytes.length + 1
  | .lit _ => 1
  | .nil => 1
  | .ptr d => uptoBulk d + 1
  | .slice elems spare => uptoBulkAll elems + uptoBulkAll spare + 1
  | .agg parts => uptoBulkAll parts + 1
  | .iface _ d => uptoBulk d + 1
  | .map entries => uptoBulkEntries entries + 1
  | .held _ => 1
def uptoBulkAll {H : Type} : List (DataW H) → Nat
  | [] => 0
  | d :: r => uptoBulk d + uptoBulkAll r
def uptoBulkEntries {H : Type} : List (Lit × DataW H) → Nat
  | [] => 0
  | x :: r => uptoBulkEntry x + uptoBulkEntries r
def uptoBulkEntry {H : Type} : Lit × DataW H → Nat
  | (.string bytes, d) => bytes.length + uptoBulk d + 1
  | (_, d) => uptoBulk d + 1
 end
def uptoSmall : (H : Type) → List (DataW H) → Bool := fun _ ds => decide (uptoBulkAll ds ≤ 1048576)
def OpenSpec.upto (s : _root_.Go.ChangeSpec) : _root_.Go.OpenSpec := { _root_.Go.OpenSpec.ofChange s with cond := some uptoSmall }

/-- 'pianolalaw13.BalanceHolds', WHERE WHAT IT READS IS OF BULK AT MOST 1048576: true; the input reads as it did. -/
def balanceHoldsUptoRow : OpenClaim := { program := "ytecmkienoofccaa", sum := "b76e1da6031dd6969a81c45f56ab47321598cd7d2009ebf049cc0377b6ae533f", func := "pianola/pianolalaw13.BalanceHolds", spec := "balanceHolds", unfollowed := true, recurses := true, apart := false, narrowed := true }
def BalanceHoldsUptoSaid : Prop := balanceHoldsUptoRow.holds Try.pinned (OpenSpec.upto balanceHoldsSpec)

/-- 'pianolalaw13.BalanceSolves', WHERE WHAT IT READS IS OF BULK AT MOST 1048576: true; the input reads as it did. -/
def balanceSolvesUptoRow : OpenClaim := { program := "ytecmkienoofccaa", sum := "b76e1da6031dd6969a81c45f56ab47321598cd7d2009ebf049cc0377b6ae533f", func := "pianola/pianolalaw13.BalanceSolves", spec := "balanceSolves", unfollowed := true, recurses := true, apart := false, narrowed := true }
def BalanceSolvesUptoSaid : Prop := balanceSolvesUptoRow.holds Try.pinned (OpenSpec.upto balanceSolvesSpec)

/-- 'pianolalaw13.BalanceOne', WHERE WHAT IT READS IS OF BULK AT MOST 1048576: true; the input reads as it did. -/
def balanceOneUptoRow : OpenClaim := { program := "ytecmkienoofccaa", sum := "b76e1da6031dd6969a81c45f56ab47321598cd7d2009ebf049cc0377b6ae533f", func := "pianola/pianolalaw13.BalanceOne", spec := "balanceOne", unfollowed := true, recurses := true, apart := false, narrowed := true }
def BalanceOneUptoSaid : Prop := balanceOneUptoRow.holds Try.pinned (OpenSpec.upto balanceOneSpec)

/-- 'pianolalaw13.BalanceLeast', WHERE WHAT IT READS IS OF BULK AT MOST 1048576: true; the input reads as it did. -/
def balanceLeastUptoRow : OpenClaim := { program := "ytecmkienoofccaa", sum := "b76e1da6031dd6969a81c45f56ab47321598cd7d2009ebf049cc0377b6ae533f", func := "pianola/pianolalaw13.BalanceLeast", spec := "balanceLeast", unfollowed := true, recurses := true, apart := false, narrowed := true }
def BalanceLeastUptoSaid : Prop := balanceLeastUptoRow.holds Try.pinned (OpenSpec.upto balanceLeastSpec)

/-- 'pianolalaw13.BalanceUnlike', WHERE WHAT IT READS IS OF BULK AT MOST 1048576: true; the input reads as it did. -/
def balanceUnlikeUptoRow : OpenClaim := { program := "ytecmkienoofccaa", sum := "b76e1da6031dd6969a81c45f56ab47321598cd7d2009ebf049cc0377b6ae533f", func := "pianola/pianolalaw13.BalanceUnlike", spec := "balanceUnlike", unfollowed := true, recurses := true, apart := false, narrowed := true }
def BalanceUnlikeUptoSaid : Prop := balanceUnlikeUptoRow.holds Try.pinned (OpenSpec.upto balanceUnlikeSpec)

/-- 'pianolalaw13.BalanceStarts', WHERE WHAT IT READS IS OF BULK AT MOST 1048576: true; the input reads as it did. -/
def balanceStartsUptoRow : OpenClaim := { program := "ytecmkienoofccaa", sum := "b76e1da6031dd6969a81c45f56ab47321598cd7d2009ebf049cc0377b6ae533f", func := "pianola/pianolalaw13.BalanceStarts", spec := "balanceStarts", unfollowed := true, recurses := true, apart := false, narrowed := true }
def BalanceStartsUptoSaid : Prop := balanceStartsUptoRow.holds Try.pinned (OpenSpec.upto balanceStartsSpec)

end Rows
end Go.Proofs.Ytecmkienoofccaa
