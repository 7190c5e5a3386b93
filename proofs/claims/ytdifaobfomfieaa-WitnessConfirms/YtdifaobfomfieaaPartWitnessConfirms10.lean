/- Texts of one chain, laid one behind the other. -/
import Derived.Test.YtdifaobfomfieaaPartWitnessConfirms1
import Derived.Test.YtdifaobfomfieaaPartWitnessConfirms5
import Derived.Test.YtdifaobfomfieaaPartWitnessConfirms2
import Derived.Recover
import Derived.Laws.Pointers
import Derived.Laws.NewBlocks
namespace Go.Proofs.Ytdifaobfomfieaa
open Go.ChangeShapes Go.WideShapes Go.ChangeAt Go.RowKit
/-- A new variable of two cells, and of one, behind calls that turned nothing old. -/
structure Var2 (w : World) (b : Nat) (x y : Value) : Prop where
  c0 : w.cell? ⟨b, 0, none⟩ = some x
  c1 : w.cell? ⟨b, 1, none⟩ = some y
  f0 : w.frozen? ⟨b, 0, none⟩ = false
  f1 : w.frozen? ⟨b, 1, none⟩ = false
  lt : b < w.heap.size
theorem Var2.later {w w' : World} {b : Nat} {x y : Value} (h : Var2 w b x y) {B : Nat} (hb : Below B w w') (hB : b < B) : Var2 w' b x y :=
  ⟨(hb.cell (p := ⟨b, 0, none⟩) hB).trans h.c0, (hb.cell (p := ⟨b, 1, none⟩) hB).trans h.c1, (hb.frozen (p := ⟨b, 0, none⟩) hB).trans h.f0, (hb.frozen (p := ⟨b, 1, none⟩) hB).trans h.f1, Nat.lt_of_lt_of_le h.lt hb.size⟩
theorem var2_new (w : World) (x y : Value) (t : TypeId) : Var2 (w.alloc (.cells #[x, y] t)) w.heap.size x y := ⟨by simp, by simp, by simp, by simp, by simp⟩
structure Var1 (w : World) (b : Nat) (x : Value) : Prop where
  c0 : w.cell? ⟨b, 0, none⟩ = some x
  f0 : w.frozen? ⟨b, 0, none⟩ = false
  lt : b < w.heap.size
theorem Var1.later {w w' : World} {b : Nat} {x : Value} (h : Var1 w b x) {B : Nat} (hb : Below B w w') (hB : b < B) : Var1 w' b x :=
  ⟨(hb.cell (p := ⟨b, 0, none⟩) hB).trans h.c0, (hb.frozen (p := ⟨b, 0, none⟩) hB).trans h.f0, Nat.lt_of_lt_of_le h.lt hb.size⟩
theorem Var1.alloc {w : World} {b : Nat} {x : Value} (h : Var1 w b x) (o : Obj) : Var1 (w.alloc o) b x := h.later ((Below.refl w.heap.size w).alloc (Nat.le_refl _) o) h.lt
theorem Var2.alloc {w : World} {b : Nat} {x y : Value} (h : Var2 w b x y) (o : Obj) : Var2 (w.alloc o) b x y := h.later ((Below.refl w.heap.size w).alloc (Nat.le_refl _) o) h.lt
/-- A store elsewhere turns it not; a store into it is read there. -/
theorem size_set (w : World) (p : Addr) (v : Value) : (w.setCell p v).heap.size = w.heap.size := by simp [World.setCell]
theorem Var1.other {w : World} {b : Nat} {x : Value} (h : Var1 w b x) {p : Addr} (hp : p.block ≠ b) (v : Value) : Var1 (w.setCell p v) b x :=
  ⟨by rw [World.cell?_setCell_other _ _ _ _ (fun e => hp (by rw [e]))]; exact h.c0, by rw [World.frozen?_setCell]; exact h.f0, by rw [size_set]; exact h.lt⟩
theorem Var2.other {w : World} {b : Nat} {x y : Value} (h : Var2 w b x y) {p : Addr} (hp : p.block ≠ b) (v : Value) : Var2 (w.setCell p v) b x y :=
  ⟨by rw [World.cell?_setCell_other _ _ _ _ (fun e => hp (by rw [e]))]; exact h.c0, by rw [World.cell?_setCell_other _ _ _ _ (fun e => hp (by rw [e]))]; exact h.c1,
    by rw [World.frozen?_setCell]; exact h.f0, by rw [World.frozen?_setCell]; exact h.f1, by rw [size_set]; exact h.lt⟩
theorem Var1.put {w : World} {b : Nat} {x : Value} (h : Var1 w b x) (v : Value) : Var1 (w.setCell ⟨b, 0, none⟩ v) b v :=
  ⟨World.cell?_setCell_same _ _ _ h.c0, by rw [World.frozen?_setCell]; exact h.f0, by rw [size_set]; exact h.lt⟩
theorem Var2.put {w : World} {b : Nat} {x y : Value} (h : Var2 w b x y) (u v : Value) : Var2 ((w.setCell ⟨b, 0, none⟩ u).setCell ⟨b, 1, none⟩ v) b u v :=
  ⟨by rw [World.cell?_setCell_other _ _ _ _ (by simp)]; exact World.cell?_setCell_same _ _ _ h.c0, World.cell?_setCell_same _ _ _ ((World.cell?_setCell_other _ _ _ _ (by simp)).trans h.c1), by rw [World.frozen?_setCell, World.frozen?_setCell]; exact h.f0, by rw [World.frozen?_setCell, World.frozen?_setCell]; exact h.f1, by rw [size_set, size_set]; exact h.lt⟩
end Go.Proofs.Ytdifaobfomfieaa
