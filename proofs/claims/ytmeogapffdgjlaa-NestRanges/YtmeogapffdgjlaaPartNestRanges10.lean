/- Texts of one chain, laid one behind the other. -/
import Derived.Test.YtmeogapffdgjlaaPartNestRanges8
import Derived.Test.YtmeogapffdgjlaaPartNestRanges9
import Derived.Test.YtmeogapffdgjlaaPartNestRanges3
import Derived.Deep.LoopGhost
import Derived.Deep.DeepCutAuto
namespace Go.Proofs.Ytmeogapffdgjlaa
open Go.ChangeShapes Go.WideShapes Go.ChangeAt Go.RowKit
theorem hiddenN {p : Prop} (h : p) : Hid p := h
/-- A row of arcs, as it lies. -/
def AtN (w : World) (a : Option Addr) (L : List NA) : Prop := L = [] ∨ ∃ b off, a = some ⟨b, off, none⟩ ∧ ∀ k, k < L.length → w.cell? ⟨b, off + k * 5, none⟩ = some (.int .i64 (nthNa L k).f) ∧ w.cell? ⟨b, off + k * 5 + 1, none⟩ = some (.int .i64 (nthNa L k).t) ∧ w.cell? ⟨b, off + k * 5 + 2, none⟩ = some (.int .i64 (nthNa L k).g) ∧ w.cell? ⟨b, off + k * 5 + 3, none⟩ = some (.int .i64 (nthNa L k).k) ∧ w.cell? ⟨b, off + k * 5 + 4, none⟩ = some (.int .i64 (nthNa L k).s)
theorem cellN_keep {B : Nat} {w w' : World} {p : Addr} {v : Value} (hb : Below B w w') (hp : p.block < B) (h : w.cell? p = some v) : w'.cell? p = some v := by rw [hb.cell hp]; exact h
theorem cellN_later {w w' : World} {p : Addr} {v : Value} (hb : Below w.heap.size w w') (h : w.cell? p = some v) : w'.cell? p = some v := cellN_keep hb (block_lt_of_cell h) h
theorem AtN.below {w w' : World} {a : Option Addr} {L : List NA} (h : AtN w a L) (hb : Below w.heap.size w w') : AtN w' a L := by
  rcases h with h | ⟨b, off, e, hc⟩
  · exact .inl h
  · refine .inr ⟨b, off, e, fun k hk => ?_⟩
    obtain ⟨h0, h1, h2, h3, h4⟩ := hc k hk
    exact ⟨cellN_later hb h0, cellN_later hb h1, cellN_later hb h2, cellN_later hb h3, cellN_later hb h4⟩
/-- All old blocks are as they were, but those from B up to E. -/
structure Mid (B E : Nat) (w w' : World) : Prop where
  os : w'.os = w.os
  tape : w'.tape = w.tape
  output : w'.output = w.output
  size : w.heap.size ≤ w'.heap.size
  block : ∀ k, k < w.heap.size → (k < B ∨ E ≤ k) → w'.heap[k]? = w.heap[k]?
theorem Mid.refl (B E : Nat) (w : World) : Mid B E w w := ⟨rfl, rfl, rfl, Nat.le_refl _, fun _ _ _ => rfl⟩
theorem Mid.of_below {B E : Nat} {w w' : World} (h : Below w.heap.size w w') : Mid B E w w' := ⟨h.os, h.tape, h.output, h.size, fun k hk _ => h.block k hk⟩
theorem Mid.trans {B E : Nat} {a b c : World} (h : Mid B E a b) (k : Mid B E b c) : Mid B E a c :=
  ⟨k.os.trans h.os, k.tape.trans h.tape, k.output.trans h.output, Nat.le_trans h.size k.size, fun i hi hn => (k.block i (by have := h.size; omega) hn).trans (h.block i hi hn)⟩
theorem Mid.set {B E : Nat} (w : World) {K : Nat} (k : Nat) (u : Value) (h : B ≤ K ∧ K < E) : Mid B E w (w.setCell ⟨K, k, none⟩ u) := ⟨rfl, rfl, rfl, by simp [World.setCell], fun i _ hn => Below.heap_setCell _ _ _ _ (by show i ≠ K; omega)⟩
theorem Mid.below {B E : Nat} {w w' : World} (h : Mid B E w w') (hB : B ≤ w.heap.size) : Below B w w' := ⟨h.os, h.tape, h.output, h.size, fun k hk => h.block k (by omega) (.inl hk)⟩
theorem At.keep {w w' : World} {a : Option Addr} {zs : List Int} (h : At w a zs) (hk : ∀ x, a = some x → w'.heap[x.block]? = w.heap[x.block]?) : At w' a zs := by
  rcases h with h | ⟨b, off, e, hc⟩
  · exact .inl h
  · refine .inr ⟨b, off, e, fun k hl => ?_⟩
    have h1 := hc k hl
    have h2 := hk _ e
    simp only at h2
    unfold World.cell? at h1 ⊢
    simp only at h1 ⊢
    rw [h2]; exact h1
theorem AtN.keep {w w' : World} {a : Option Addr} {L : List NA} (h : AtN w a L) (hk : ∀ x, a = some x → w'.heap[x.block]? = w.heap[x.block]?) : AtN w' a L := by
  rcases h with h | ⟨b, off, e, hc⟩
  · exact .inl h
  · have h2 := hk _ e
    simp only at h2
    have key : ∀ k v, w.cell? ⟨b, k, none⟩ = some v → w'.cell? ⟨b, k, none⟩ = some v := fun k v h1 => by
      unfold World.cell? at h1 ⊢
      simp only at h1 ⊢
      rw [h2]; exact h1
    refine .inr ⟨b, off, e, fun k hl => ?_⟩
    obtain ⟨h0, h1, h2, h3, h4⟩ := hc k hl
    exact ⟨key _ _ h0, key _ _ h1, key _ _ h2, key _ _ h3, key _ _ h4⟩
end Go.Proofs.Ytmeogapffdgjlaa
