/- A net's state, as it lies. (Written by tmpl/mkN2.py.) -/
import Derived.Test.YtancphohpedigaaN1
namespace Go.Proofs.Ytancphohpedigaa
open Go.ChangeShapes Go.WideShapes Go.ChangeAt Go.RowKit

/-- All old blocks are as they were, but those from B up to E. -/
structure Mid (B E : Nat) (w w' : World) : Prop where
  os : w'.os = w.os
  tape : w'.tape = w.tape
  output : w'.output = w.output
  size : w.heap.size ≤ w'.heap.size
  block : ∀ k, k < w.heap.size → (k < B ∨ E ≤ k) → w'.heap[k]? = w.heap[k]?
theorem Mid.refl (B E : Nat) (w : World) : Mid B E w w := ⟨rfl, rfl, rfl, Nat.le_refl _, fun _ _ _ => rfl⟩
theorem Mid.of_below {B E : Nat} {w w' : World} (h : Below w.heap.size w w') : Mid B E w w' := ⟨h.os, h.tape, h.output, h.size, fun k hk _ => h.block k hk⟩
theorem Mid.trans {B E : Nat} {a b c : World} (h : Mid B E a b) (k : Mid B E b c) : Mid B E a c :=
  ⟨k.os.trans h.os, k.tape.trans h.tape, k.output.trans h.output, Nat.le_trans h.size k.size, fun i hi hn => (k.block i (by have := h.size; omega) hn).trans (h.block i hi hn)⟩
theorem Mid.set {B E : Nat} (w : World) {K : Nat} (k : Nat) (u : Value) (h : B ≤ K ∧ K < E) : Mid B E w (w.setCell ⟨K, k, none⟩ u) := ⟨rfl, rfl, rfl, by simp [World.setCell], fun i _ hn => Below.heap_setCell _ _ _ _ (by show i ≠ K; omega)⟩
theorem Mid.below {B E : Nat} {w w' : World} (h : Mid B E w w') (hB : B ≤ w.heap.size) : Below B w w' := ⟨h.os, h.tape, h.output, h.size, fun k hk => h.block k (by omega) (.inl hk)⟩
theorem At.keep {w w' : World} {a : Option Addr} {zs : List Int} (h : At w a zs) (hk : ∀ x, a = some x → w'.heap[x.block]? = w.heap[x.block]?) : At w' a zs := by
  rcases h with h | ⟨b, off, e, hc⟩
  · exact .inl h
  · refine .inr ⟨b, off, e, fun k hl => ?_⟩
    have h1 := hc k hl
    have h2 := hk _ e
    simp only at h2
    unfold World.cell? at h1 ⊢
    simp only at h1 ⊢
    rw [h2]; exact h1
theorem AtN.keep {w w' : World} {a : Option Addr} {L : List NA} (h : AtN w a L) (hk : ∀ x, a = some x → w'.heap[x.block]? = w.heap[x.block]?) : AtN w' a L := by
  rcases h with h | ⟨b, off, e, hc⟩
  · exact .inl h
  · have h2 := hk _ e
    simp only at h2
    have key : ∀ k v, w.cell? ⟨b, k, none⟩ = some v → w'.cell? ⟨b, k, none⟩ = some v := fun k v h1 => by
      unfold World.cell? at h1 ⊢
      simp only at h1 ⊢
      rw [h2]; exact h1
    refine .inr ⟨b, off, e, fun k hl => ?_⟩
    obtain ⟨h0, h1, h2, h3, h4⟩ := hc k hl
    exact ⟨key _ _ h0, key _ _ h1, key _ _ h2, key _ _ h3, key _ _ h4⟩
theorem cell_block {w w' : World} {b k : Nat} {v : Value} (h2 : w'.heap[b]? = w.heap[b]?) (h1 : w.cell? ⟨b, k, none⟩ = some v) : w'.cell? ⟨b, k, none⟩ = some v := by
  unfold World.cell? at h1 ⊢
  simp only at h1 ⊢
  rw [h2]; exact h1
/-- The blocks of a state that no firing changes. -/
def Fix (B E : Nat) (aT : Option Addr) (gF k : Nat) : Prop := B ≤ k ∧ k < E ∧ (∀ y, aT = some y → k ≠ y.block) ∧ k ≠ gF
structure StP (B E : Nat) (w : World) (K : Nat) (n : NN) (T F : List Int) (aA : Option Addr) (cA H1 H2 : Nat) (D1 D2 : Nat → Option Addr) (E1 E2 : Nat → Nat) (aT : Option Addr) (cT gF : Nat) : Prop where
  blk : BlkA 72 K w #[.slice aA n.arcs.length cA, .slice (some ⟨H1, 0, none⟩) n.nodes.toNat n.nodes.toNat, .slice (some ⟨H2, 0, none⟩) n.nodes.toNat n.nodes.toNat, .slice aT T.length cT, .slice (some ⟨gF, 0, none⟩) n.nodes.toNat n.nodes.toNat]
  arcs : AtN w aA n.arcs
  ins : ∀ v : Nat, v < n.nodes.toNat → w.cell? ⟨H1, v, none⟩ = some (.slice (D1 v) (inArcsN n v).length (E1 v)) ∧ At w (D1 v) (inArcsN n v)
  outs : ∀ v : Nat, v < n.nodes.toNat → w.cell? ⟨H2, v, none⟩ = some (.slice (D2 v) (outArcsN n v).length (E2 v)) ∧ At w (D2 v) (outArcsN n v)
  tok : CapR B w aT cT T
  fir : CapR B w (some ⟨gF, 0, none⟩) n.nodes.toNat F
  lT : T.length = n.arcs.length
  lF : F.length = n.nodes.toNat
  rT : InR T
  rF : InR F
  sound : SoundN n
  fK : Fix B E aT gF K
  fA : ∀ x, aA = some x → Fix B E aT gF x.block
  f1 : Fix B E aT gF H1
  f2 : Fix B E aT gF H2
  g1 : ∀ v, v < n.nodes.toNat → ∀ x, D1 v = some x → Fix B E aT gF x.block
  g2 : ∀ v, v < n.nodes.toNat → ∀ x, D2 v = some x → Fix B E aT gF x.block
  iT : ∀ y, aT = some y → B ≤ y.block ∧ y.block < E ∧ y.block ≠ gF
  iF : B ≤ gF ∧ gF < E
  low : E ≤ w.heap.size
theorem StP.keep {B E : Nat} {w w' : World} {K : Nat} {n : NN} {T F : List Int} {aA : Option Addr} {cA H1 H2 : Nat} {D1 D2 : Nat → Option Addr} {E1 E2 : Nat → Nat} {aT : Option Addr} {cT gF : Nat} (h : StP B E w K n T F aA cA H1 H2 D1 D2 E1 E2 aT cT gF) (hk : ∀ k, B ≤ k → k < E → w'.heap[k]? = w.heap[k]?) (hs : w.heap.size ≤ w'.heap.size) : StP B E w' K n T F aA cA H1 H2 D1 D2 E1 E2 aT cT gF :=
  ⟨h.blk.keep (hk _ h.fK.1 h.fK.2.1), h.arcs.keep (fun x hx => hk _ (h.fA x hx).1 (h.fA x hx).2.1), fun v hv => ⟨cell_block (hk _ h.f1.1 h.f1.2.1) (h.ins v hv).1, (h.ins v hv).2.keep fun x hx => hk _ (h.g1 v hv x hx).1 (h.g1 v hv x hx).2.1⟩, fun v hv => ⟨cell_block (hk _ h.f2.1 h.f2.2.1) (h.outs v hv).1, (h.outs v hv).2.keep fun x hx => hk _ (h.g2 v hv x hx).1 (h.g2 v hv x hx).2.1⟩,
    h.tok.keep (fun x hx => hk _ (h.iT x hx).1 (h.iT x hx).2.1), h.fir.keep (fun x hx => by cases hx; exact hk _ h.iF.1 h.iF.2), h.lT, h.lF, h.rT, h.rF, h.sound, h.fK, h.fA, h.f1, h.f2, h.g1, h.g2, h.iT, h.iF, Nat.le_trans h.low hs⟩
theorem StP.below {B E : Nat} {w w' : World} {K : Nat} {n : NN} {T F : List Int} {aA : Option Addr} {cA H1 H2 : Nat} {D1 D2 : Nat → Option Addr} {E1 E2 : Nat → Nat} {aT : Option Addr} {cT gF : Nat} (h : StP B E w K n T F aA cA H1 H2 D1 D2 E1 E2 aT cT gF) (hb : Below w.heap.size w w') : StP B E w' K n T F aA cA H1 H2 D1 D2 E1 E2 aT cT gF :=
  h.keep (fun k _ hk => hb.block k (Nat.lt_of_lt_of_le hk h.low)) hb.size
theorem StP.setT {B E : Nat} {w : World} {K : Nat} {n : NN} {T F : List Int} {aA : Option Addr} {cA H1 H2 : Nat} {D1 D2 : Nat → Option Addr} {E1 E2 : Nat → Nat} {gT cT gF : Nat} (h : StP B E w K n T F aA cA H1 H2 D1 D2 E1 E2 (some ⟨gT, 0, none⟩) cT gF) {i : Nat} {x : Int} (hx : -9223372036854775808 ≤ x ∧ x ≤ 9223372036854775807) :
    StP B E (w.setCell ⟨gT, i, none⟩ (.int .i64 x)) K n (T.set i x) F aA cA H1 H2 D1 D2 E1 E2 (some ⟨gT, 0, none⟩) cT gF := by
  have hk : ∀ k, k ≠ gT → (w.setCell ⟨gT, i, none⟩ (.int .i64 x)).heap[k]? = w.heap[k]? := fun k hk => Below.heap_setCell w ⟨gT, i, none⟩ _ k hk
  have nf : ∀ k, Fix B E (some ⟨gT, 0, none⟩) gF k → k ≠ gT := fun k hk => hk.2.2.1 _ rfl
  refine ⟨?_, h.arcs.keep (fun y hy => hk _ (nf _ (h.fA y hy))), fun v hv => ⟨cell_block (hk _ (nf _ h.f1)) (h.ins v hv).1, (h.ins v hv).2.keep fun y hy => hk _ (nf _ (h.g1 v hv y hy))⟩, fun v hv => ⟨cell_block (hk _ (nf _ h.f2)) (h.outs v hv).1, (h.outs v hv).2.keep fun y hy => hk _ (nf _ (h.g2 v hv y hy))⟩,
    h.tok.setAt x, h.fir.keep (fun y hy => by cases hy; exact hk _ (Ne.symm (h.iT _ rfl).2.2)), by rw [List.length_set]; exact h.lT, h.lF, inR_setN h.rT hx, h.rF, h.sound, h.fK, h.fA, h.f1, h.f2, h.g1, h.g2, h.iT, h.iF, by rw [World.size_setCell]; exact h.low⟩
  rw [List.length_set]
  exact h.blk.keep (hk _ (nf _ h.fK))
theorem StP.setF {B E : Nat} {w : World} {K : Nat} {n : NN} {T F : List Int} {aA : Option Addr} {cA H1 H2 : Nat} {D1 D2 : Nat → Option Addr} {E1 E2 : Nat → Nat} {aT : Option Addr} {cT gF : Nat} (h : StP B E w K n T F aA cA H1 H2 D1 D2 E1 E2 aT cT gF) {i : Nat} {x : Int} (hx : -9223372036854775808 ≤ x ∧ x ≤ 9223372036854775807) :
    StP B E (w.setCell ⟨gF, i, none⟩ (.int .i64 x)) K n T (F.set i x) aA cA H1 H2 D1 D2 E1 E2 aT cT gF := by
  have hk : ∀ k, k ≠ gF → (w.setCell ⟨gF, i, none⟩ (.int .i64 x)).heap[k]? = w.heap[k]? := fun k hk => Below.heap_setCell w ⟨gF, i, none⟩ _ k hk
  have nf : ∀ k, Fix B E aT gF k → k ≠ gF := fun k hk => hk.2.2.2
  exact ⟨h.blk.keep (hk _ (nf _ h.fK)), h.arcs.keep (fun y hy => hk _ (nf _ (h.fA y hy))), fun v hv => ⟨cell_block (hk _ (nf _ h.f1)) (h.ins v hv).1, (h.ins v hv).2.keep fun y hy => hk _ (nf _ (h.g1 v hv y hy))⟩, fun v hv => ⟨cell_block (hk _ (nf _ h.f2)) (h.outs v hv).1, (h.outs v hv).2.keep fun y hy => hk _ (nf _ (h.g2 v hv y hy))⟩,
    h.tok.keep (fun y hy => hk _ (h.iT y hy).2.2), h.fir.setAt x, h.lT, by rw [List.length_set]; exact h.lF, h.rT, inR_setN h.rF hx, h.sound, h.fK, h.fA, h.f1, h.f2, h.g1, h.g2, h.iT, h.iF, by rw [World.size_setCell]; exact h.low⟩
def StE (B E : Nat) (w : World) (K : Nat) (n : NN) (T F : List Int) : Prop := ∃ (aA : Option Addr) (cA H1 H2 : Nat) (D1 D2 : Nat → Option Addr) (E1 E2 : Nat → Nat) (aT : Option Addr) (cT gF : Nat), StP B E w K n T F aA cA H1 H2 D1 D2 E1 E2 aT cT gF
theorem StE.keep {B E : Nat} {w w' : World} {K : Nat} {n : NN} {T F : List Int} (h : StE B E w K n T F) (hk : ∀ k, B ≤ k → k < E → w'.heap[k]? = w.heap[k]?) (hs : w.heap.size ≤ w'.heap.size) : StE B E w' K n T F := by
  obtain ⟨aA, cA, H1, H2, D1, D2, E1, E2, aT, cT, gF, h⟩ := h
  exact ⟨_, _, _, _, _, _, _, _, _, _, _, h.keep hk hs⟩
theorem StE.below {B E : Nat} {w w' : World} {K : Nat} {n : NN} {T F : List Int} (h : StE B E w K n T F) (hb : Below w.heap.size w w') : StE B E w' K n T F := by
  obtain ⟨aA, cA, H1, H2, D1, D2, E1, E2, aT, cT, gF, h⟩ := h
  exact ⟨_, _, _, _, _, _, _, _, _, _, _, h.below hb⟩
theorem StE.low {B E : Nat} {w : World} {K : Nat} {n : NN} {T F : List Int} (h : StE B E w K n T F) : B ≤ w.heap.size ∧ E ≤ w.heap.size := by
  obtain ⟨aA, cA, H1, H2, D1, D2, E1, E2, aT, cT, gF, h⟩ := h
  have := h.low; have := h.iF
  exact ⟨by omega, by omega⟩
end Go.Proofs.Ytancphohpedigaa
