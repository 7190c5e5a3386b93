/- Texts of one chain, laid one behind the other. -/
import Derived.Test.YtigodedloogbcaaPartSimulRuns9
import Derived.Test.YtigodedloogbcaaPartSimulRuns12
import Derived.Maps.OwnSet
namespace Go.Proofs.Ytigodedloogbcaa
open Go.ChangeShapes Go.WideShapes Go.ChangeAt Go.RowKit
def bkA (b : BK) : Array Value := #[.int .i64 b.n, .int .i64 b.f, .int .i64 b.a]
def bkV (b : BK) : Value := .agg (bkA b)
def InK (b : BK) : Prop := (-9223372036854775808 ≤ b.n ∧ b.n ≤ 9223372036854775807) ∧ (-9223372036854775808 ≤ b.f ∧ b.f ≤ 9223372036854775807) ∧ (-9223372036854775808 ≤ b.a ∧ b.a ≤ 9223372036854775807)
def AtK (w : World) (a : Option Addr) (L : List BK) : Prop := L = [] ∨ ∃ b off, a = some ⟨b, off, none⟩ ∧ ∀ k, k < L.length → w.cell? ⟨b, off + k * 3, none⟩ = some (.int .i64 (nthBk L k).n) ∧ w.cell? ⟨b, off + k * 3 + 1, none⟩ = some (.int .i64 (nthBk L k).f) ∧ w.cell? ⟨b, off + k * 3 + 2, none⟩ = some (.int .i64 (nthBk L k).a)
theorem AtK.below {w w' : World} {a : Option Addr} {L : List BK} (h : AtK w a L) (hb : Below w.heap.size w w') : AtK w' a L := by
  rcases h with h | ⟨b, off, h1, h2⟩
  · exact .inl h
  · refine .inr ⟨b, off, h1, fun k hk => ?_⟩
    obtain ⟨c0, c1, c2⟩ := h2 k hk
    exact ⟨cellN_later hb c0, cellN_later hb c1, cellN_later hb c2⟩
/-- How an element reads: as itself. -/
def heldK (v : Value) : Option (DataW Value × List MemPlace) := some (.held v, [])
def MapK (w : World) (m : Nat) (L : List BK) : Prop :=
  ∃ (n : Nat) (D : DataW Value), w.ownsMap Try.prog 3 heldK m n D ∧ n ≤ L.length ∧ Maps.IsMap D ∧ ∀ v : Int, Maps.has D (.int .i64 v) = hasK L v ∧ D.atKey (.int .i64 v) (.held (bkV ⟨0, 0, 0⟩)) = .held (bkV (atK L v))
theorem MapK.lt {w : World} {m : Nat} {L : List BK} (h : MapK w m L) : m < w.heap.size := by
  obtain ⟨n, D, h1, -⟩ := h
  exact h1.lt
theorem MapK.keep {w w' : World} {m : Nat} {L : List BK} (h : MapK w m L) (hb : w'.heap[m]? = w.heap[m]?) : MapK w' m L := by
  obtain ⟨n, D, ⟨es, clock, h1, h2⟩, h3⟩ := h
  exact ⟨n, D, ⟨es, clock, hb.trans h1, h2⟩, h3⟩
theorem MapK.below {w w' : World} {m : Nat} {L : List BK} (h : MapK w m L) (hb : Below w.heap.size w w') : MapK w' m L := h.keep (hb.block m h.lt)
end Go.Proofs.Ytigodedloogbcaa
