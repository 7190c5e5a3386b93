/- Texts of one chain, laid one behind the other. -/
import Derived.Test.YtafkmpfoojofhaaPartStuckOrder11
import Derived.Test.YtafkmpfoojofhaaPartStuckOrder8
import Derived.Test.YtafkmpfoojofhaaPartStuckOrder3
import Derived.Laws.Tables
namespace Go.Proofs.Ytafkmpfoojofhaa
open Go.ChangeShapes Go.WideShapes Go.ChangeAt Go.RowKit
/-- A row that has grown by one number; what else has stayed. -/
structure GrwN (B : Nat) (V : World) (d0 : Option Addr) (L : List Int) (u : World) (d : Option Addr) (c : Nat) : Prop where
  own : CapR B u d c L
  keep : ∀ k, k < V.heap.size → (∀ y, d0 = some y → y.block ≠ k) → u.heap[k]? = V.heap[k]?
  new : ∀ z, d = some z → d0 = some z ∨ V.heap.size ≤ z.block
  size : V.heap.size ≤ u.heap.size
  os : u.os = V.os
  tape : u.tape = V.tape
  output : u.output = V.output
theorem GrwN.later {B : Nat} {V u u' : World} {d0 : Option Addr} {L : List Int} {d : Option Addr} {c : Nat} (h : GrwN B V d0 L u d c) (hb : Below u.heap.size u u') : GrwN B V d0 L u' d c :=
  ⟨h.own.later hb, fun k hk hn => (hb.block k (Nat.lt_of_lt_of_le hk h.size)).trans (h.keep k hk hn), h.new, Nat.le_trans h.size hb.size, hb.os.trans h.os, hb.tape.trans h.tape, hb.output.trans h.output⟩
end Go.Proofs.Ytafkmpfoojofhaa
