/- Texts of one chain, laid one behind the other. -/
import Derived.Test.YtmeogapffdgjlaaPartNestRanges18
import Derived.Test.YtmeogapffdgjlaaPartNestRanges9
import Derived.Test.YtmeogapffdgjlaaPartNestRanges3
import Derived.Laws.Tables
namespace Go.Proofs.Ytmeogapffdgjlaa
open Go.ChangeShapes Go.WideShapes Go.ChangeAt Go.RowKit
theorem doneAt_eq (d : Nat → Bool) (i : Nat) : doneAt d i i = true := by unfold doneAt; rw [if_pos rfl]
theorem doneAt_ne (d : Nat → Bool) {i j : Nat} (h : j ≠ i) : doneAt d i j = d j := by unfold doneAt; rw [if_neg h]
/-- A row that has grown by one number; what else has stayed. -/
structure GrwN (B : Nat) (V : World) (d0 : Option Addr) (L : List Int) (u : World) (d : Option Addr) (c : Nat) : Prop where
  own : CapR B u d c L
  keep : ∀ k, k < V.heap.size → (∀ y, d0 = some y → y.block ≠ k) → u.heap[k]? = V.heap[k]?
  new : ∀ z, d = some z → d0 = some z ∨ V.heap.size ≤ z.block
  size : V.heap.size ≤ u.heap.size
  os : u.os = V.os
  tape : u.tape = V.tape
  output : u.output = V.output
theorem GrwN.later {B : Nat} {V u u' : World} {d0 : Option Addr} {L : List Int} {d : Option Addr} {c : Nat} (h : GrwN B V d0 L u d c) (hb : Below u.heap.size u u') : GrwN B V d0 L u' d c :=
  ⟨h.own.later hb, fun k hk hn => (hb.block k (Nat.lt_of_lt_of_le hk h.size)).trans (h.keep k hk hn), h.new, Nat.le_trans h.size hb.size, hb.os.trans h.os, hb.tape.trans h.tape, hb.output.trans h.output⟩
/-- One row of a table has grown, the table's cell is set: what has become of the world. -/
structure FinN (B : Nat) (V : World) (H N tv : Nat) (D : Nat → Option Addr) (E : Nat → Nat) (Y : Nat → List Int) (R : List Int) (u : World) (d : Option Addr) (c : Nat) : Prop where
  tab : TabN B u H N (upd D tv d) (upd E tv c) (upd Y tv R)
  keep : ∀ k, k < V.heap.size → ¬ ofT N H D k → u.heap[k]? = V.heap[k]?
  new : ∀ z, d = some z → D tv = some z ∨ V.heap.size ≤ z.block
  size : V.heap.size ≤ u.heap.size
  os : u.os = V.os
  tape : u.tape = V.tape
  output : u.output = V.output
theorem FinN.later {B : Nat} {V u u' : World} {H N tv c : Nat} {D : Nat → Option Addr} {E : Nat → Nat} {Y : Nat → List Int} {R : List Int} {d : Option Addr} (h : FinN B V H N tv D E Y R u d c) (hb : Below u.heap.size u u') : FinN B V H N tv D E Y R u' d c :=
  ⟨h.tab.below hb, fun k hk hn => (hb.block k (Nat.lt_of_lt_of_le hk h.size)).trans (h.keep k hk hn), h.new, Nat.le_trans h.size hb.size, hb.os.trans h.os, hb.tape.trans h.tape, hb.output.trans h.output⟩
theorem TabN.mono {B B' : Nat} {w : World} {H N : Nat} {D : Nat → Option Addr} {E : Nat → Nat} {Y : Nat → List Int} (h : TabN B w H N D E Y) (hB : B' ≤ B) : TabN B' w H N D E Y := ⟨fun j hj => (h.own j hj).mono hB, h.long, h.dd, h.dt, Nat.le_trans hB h.low⟩
/-- The wiring's blocks. -/
def WbN (N : Nat) (aA : Option Addr) (H1 H2 : Nat) (D1 D2 : Nat → Option Addr) (k : Nat) : Prop := (∃ x, aA = some x ∧ x.block = k) ∨ ofT N H1 D1 k ∨ ofT N H2 D2 k
/-- A wiring, as it lies. -/
structure WrN (B : Nat) (w : World) (L : List NA) (N : Nat) (aA : Option Addr) (H1 H2 : Nat) (D1 D2 : Nat → Option Addr) (E1 E2 : Nat → Nat) : Prop where
  arcs : AtN w aA L
  sA : ∀ x, aA = some x → B ≤ x.block ∧ x.block < w.heap.size
  t1 : TabN B w H1 N D1 E1 (fun v => posU (toB (v : Int)) L L.length)
  t2 : TabN B w H2 N D2 E2 (fun v => posU (fromB (v : Int)) L L.length)
theorem WrN.lt {B : Nat} {w : World} {L : List NA} {N : Nat} {aA : Option Addr} {H1 H2 : Nat} {D1 D2 : Nat → Option Addr} {E1 E2 : Nat → Nat} (h : WrN B w L N aA H1 H2 D1 D2 E1 E2) {k : Nat} (hk : WbN N aA H1 H2 D1 D2 k) : B ≤ k ∧ k < w.heap.size := by
  rcases hk with ⟨x, hx, rfl⟩ | h1 | h1
  · exact h.sA x hx
  · exact h.t1.lt h1
  · exact h.t2.lt h1
theorem WrN.keep {B : Nat} {w w' : World} {L : List NA} {N : Nat} {aA : Option Addr} {H1 H2 : Nat} {D1 D2 : Nat → Option Addr} {E1 E2 : Nat → Nat} (h : WrN B w L N aA H1 H2 D1 D2 E1 E2) (hk : ∀ k, WbN N aA H1 H2 D1 D2 k → w'.heap[k]? = w.heap[k]?) (hs : w.heap.size ≤ w'.heap.size) : WrN B w' L N aA H1 H2 D1 D2 E1 E2 :=
  ⟨h.arcs.keep (fun x hx => hk _ (.inl ⟨x, hx, rfl⟩)), fun x hx => ⟨(h.sA x hx).1, Nat.lt_of_lt_of_le (h.sA x hx).2 hs⟩, h.t1.keep (fun _ hk' => hk _ (.inr (.inl hk'))), h.t2.keep (fun _ hk' => hk _ (.inr (.inr hk')))⟩
theorem WrN.below {B : Nat} {w w' : World} {L : List NA} {N : Nat} {aA : Option Addr} {H1 H2 : Nat} {D1 D2 : Nat → Option Addr} {E1 E2 : Nat → Nat} (h : WrN B w L N aA H1 H2 D1 D2 E1 E2) (hb : Below w.heap.size w w') : WrN B w' L N aA H1 H2 D1 D2 E1 E2 := h.keep (fun k hk => hb.block k (h.lt hk).2) hb.size
theorem WrN.mono {B B' : Nat} {w : World} {L : List NA} {N : Nat} {aA : Option Addr} {H1 H2 : Nat} {D1 D2 : Nat → Option Addr} {E1 E2 : Nat → Nat} (h : WrN B w L N aA H1 H2 D1 D2 E1 E2) (hB : B' ≤ B) : WrN B' w L N aA H1 H2 D1 D2 E1 E2 := ⟨h.arcs, fun x hx => ⟨Nat.le_trans hB (h.sA x hx).1, (h.sA x hx).2⟩, h.t1.mono hB, h.t2.mono hB⟩
structure GhN where
  aA : Option Addr
  cA : Nat
  H1 : Nat
  H2 : Nat
  D1 : Nat → Option Addr
  D2 : Nat → Option Addr
  E1 : Nat → Nat
  E2 : Nat → Nat
  gF : Nat
structure CN (V : World) (L : List NA) (N : Nat) (y : GhN) (d : Nat → Bool) (u : World) : Prop where
  bel : Below V.heap.size V u
  wr : d 1 = true → WrN V.heap.size u L N y.aA y.H1 y.H2 y.D1 y.D2 y.E1 y.E2
  fi : d 4 = true → CapR V.heap.size u (some ⟨y.gF, 0, none⟩) N (List.replicate N 0)
  dis : d 1 = true → d 4 = true → ∀ k, WbN N y.aA y.H1 y.H2 y.D1 y.D2 k → k ≠ y.gF
theorem CN.start (V : World) (L : List NA) (N : Nat) (y : GhN) : CN V L N y (fun _ => false) V := ⟨Below.refl _ _, (fun h => by cases h), (fun h => by cases h), (fun h => by cases h)⟩
theorem CN.later {V u u' : World} {L : List NA} {N : Nat} {y : GhN} {d : Nat → Bool} (h : CN V L N y d u) (hb : Below u.heap.size u u') : CN V L N y d u' :=
  ⟨h.bel.trans (hb.mono h.bel.size), fun e => (h.wr e).below hb, fun e => (h.fi e).later hb, h.dis⟩
theorem CN.m1 {V u u' : World} {L : List NA} {N : Nat} {y : GhN} {d : Nat → Bool} {aA : Option Addr} {cA H1 H2 : Nat} {D1 D2 : Nat → Option Addr} {E1 E2 : Nat → Nat} (h : CN V L N y d u) (hw : WrN u.heap.size u' L N aA H1 H2 D1 D2 E1 E2) (hb : Below u.heap.size u u') : CN V L N ⟨aA, cA, H1, H2, D1, D2, E1, E2, y.gF⟩ (doneAt d 1) u' := by
  have g := h.later hb
  have e4 : doneAt d 1 4 = d 4 := doneAt_ne d (by decide)
  refine ⟨g.bel, fun _ => hw.mono h.bel.size, fun e => g.fi (by rw [← e4]; exact e), fun _ e k hk => ?_⟩
  rw [e4] at e
  have h1 := (hw.lt hk).1
  have h2 := ((h.fi e).lt _ rfl).2
  intro hh
  simp only at h2 hh
  omega
theorem drewB {B : Nat} {a w : World} (h : Below B a w) (n : Nat) : Below B a (w.drewN n) := h.trans ⟨rfl, rfl, rfl, Nat.le_refl _, fun _ _ => rfl⟩
end Go.Proofs.Ytmeogapffdgjlaa
