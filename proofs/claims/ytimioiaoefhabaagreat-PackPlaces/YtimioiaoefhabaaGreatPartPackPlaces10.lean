/- Texts of one chain, laid one behind the other. -/
import Derived.Test.YtimioiaoefhabaaGreatPartPackPlaces8
import Derived.Test.YtimioiaoefhabaaGreatPartPackPlaces7
namespace Go.Proofs.YtimioiaoefhabaaGreat
open Go.ChangeShapes Go.WideShapes Go.ChangeAt Go.RowKit
theorem heap_set_same (w : World) (b k : Nat) (cs : Array Value) (T : TypeId) (u : Value) (h : w.heap[b]? = some (.cells cs T (0, 0))) : (w.setCell ⟨b, k, none⟩ u).heap[b]? = some (.cells (cs.setIfInBounds k u) T (0, 0)) := by
  simp only [World.setCell, Array.getElem?_modify]
  rw [if_pos trivial, h]
  rfl
/-- A block with these cells. -/
def BlkA (T : TypeId) (n : Nat) (w : World) (cs : Array Value) : Prop := w.heap[n]? = some (.cells cs T (0, 0))
theorem BlkA.lt {T n w cs} (h : BlkA T n w cs) : n < w.heap.size := (Array.getElem?_eq_some_iff.1 h).1
theorem BlkA.cell {T n w cs} (h : BlkA T n w cs) {k : Nat} {x : Value} (hk : cs[k]? = some x) : w.cell? ⟨n, k, none⟩ = some x := by
  unfold BlkA at h
  simp [World.cell?, h, hk]
theorem BlkA.frozen {T n w cs} (h : BlkA T n w cs) (k : Nat) : w.frozen? ⟨n, k, none⟩ = false := by
  unfold BlkA at h
  simp [World.frozen?, h]
theorem BlkA.keep {T n w w' cs} (h : BlkA T n w cs) (hb : w'.heap[n]? = w.heap[n]?) : BlkA T n w' cs := hb.trans h
theorem BlkA.below {T n w w' cs} (h : BlkA T n w cs) (hb : Below w.heap.size w w') : BlkA T n w' cs := (hb.block n h.lt).trans h
theorem BlkA.set {T n w cs} (h : BlkA T n w cs) (k : Nat) (u : Value) : BlkA T n (w.setCell ⟨n, k, none⟩ u) (cs.setIfInBounds k u) := heap_set_same w n k _ _ _ h
theorem blkA_new (T : TypeId) (w : World) (cs : Array Value) : BlkA T w.heap.size (w.alloc (.cells cs T)) cs := by show (w.heap.push _)[w.heap.size]? = _; simp
theorem CapR.keep {base : Nat} {w w' : World} {a : Option Addr} {cap : Nat} {zs : List Int} (h : CapR base w a cap zs) (hk : ∀ x, a = some x → w'.heap[x.block]? = w.heap[x.block]?) : CapR base w' a cap zs := by
  refine ⟨h.1, ?_⟩
  rcases h.2 with h2 | ⟨g, c, cur, hv, hg, hh, r⟩
  · exact .inl h2
  · refine .inr ⟨g, c, cur, hv, hg, ?_, r⟩
    cases hv
    rw [hk _ rfl]; exact hh
theorem CapR.nil (base : Nat) (w : World) : CapR base w none 0 [] := World.ownsRow_nil _ _ _ _
/-- All old blocks but one are as they were. -/
structure But (K : Nat) (w w' : World) : Prop where
  os : w'.os = w.os
  tape : w'.tape = w.tape
  output : w'.output = w.output
  size : w.heap.size ≤ w'.heap.size
  block : ∀ k, k < w.heap.size → k ≠ K → w'.heap[k]? = w.heap[k]?
theorem But.of_below {K : Nat} {w w' : World} (h : Below w.heap.size w w') : But K w w' := ⟨h.os, h.tape, h.output, h.size, fun k hk _ => h.block k hk⟩
theorem But.trans {K : Nat} {a b c : World} (h : But K a b) (k : But K b c) : But K a c :=
  ⟨k.os.trans h.os, k.tape.trans h.tape, k.output.trans h.output, Nat.le_trans h.size k.size, fun i hi hn => (k.block i (by have := h.size; omega) hn).trans (h.block i hi hn)⟩
theorem But.set (w : World) (K k : Nat) (u : Value) : But K w (w.setCell ⟨K, k, none⟩ u) := ⟨rfl, rfl, rfl, by simp [World.setCell], fun i _ hn => Below.heap_setCell _ _ _ _ hn⟩
theorem But.below {K B : Nat} {w w' : World} (h : But K w w') (hK : B ≤ K) (hB : B ≤ w.heap.size) : Below B w w' := ⟨h.os, h.tape, h.output, h.size, fun k hk => h.block k (by omega) (by omega)⟩
end Go.Proofs.YtimioiaoefhabaaGreat
