/- Texts of one chain, laid one behind the other. -/
import Derived.Test.YtolpelfdhcccnaaGreatDoorPartSourceParses8
import Derived.Test.YtolpelfdhcccnaaGreatDoorPartSourceParses4
import Derived.Laws.NewBlocks
namespace Go.Proofs.YtolpelfdhcccnaaGreatDoor
open Go.ChangeShapes Go.WideShapes Go.ChangeAt Go.RowKit
theorem size_set (w : World) (p : Addr) (v : Value) : (w.setCell p v).heap.size = w.heap.size := by simp [World.setCell]
structure Var2 (w : World) (b : Nat) (x y : Value) : Prop where
  c0 : w.cell? ⟨b, 0, none⟩ = some x
  c1 : w.cell? ⟨b, 1, none⟩ = some y
  f0 : w.frozen? ⟨b, 0, none⟩ = false
  f1 : w.frozen? ⟨b, 1, none⟩ = false
  lt : b < w.heap.size
theorem Var2.later {w w' : World} {b : Nat} {x y : Value} (h : Var2 w b x y) {B : Nat} (hb : Below B w w') (hB : b < B) : Var2 w' b x y :=
  ⟨(hb.cell (p := ⟨b, 0, none⟩) hB).trans h.c0, (hb.cell (p := ⟨b, 1, none⟩) hB).trans h.c1, (hb.frozen (p := ⟨b, 0, none⟩) hB).trans h.f0, (hb.frozen (p := ⟨b, 1, none⟩) hB).trans h.f1, Nat.lt_of_lt_of_le h.lt hb.size⟩
theorem var2_new (w : World) (x y : Value) (t : TypeId) : Var2 (w.alloc (.cells #[x, y] t)) w.heap.size x y := ⟨by simp, by simp, by simp, by simp, by simp⟩
theorem Var2.alloc {w : World} {b : Nat} {x y : Value} (h : Var2 w b x y) (o : Obj) : Var2 (w.alloc o) b x y := h.later ((Below.refl w.heap.size w).alloc (Nat.le_refl _) o) h.lt
theorem Var2.other {w : World} {b : Nat} {x y : Value} (h : Var2 w b x y) {p : Addr} (hp : p.block ≠ b) (v : Value) : Var2 (w.setCell p v) b x y :=
  ⟨by rw [World.cell?_setCell_other _ _ _ _ (fun e => hp (by rw [e]))]; exact h.c0, by rw [World.cell?_setCell_other _ _ _ _ (fun e => hp (by rw [e]))]; exact h.c1,
    by rw [World.frozen?_setCell]; exact h.f0, by rw [World.frozen?_setCell]; exact h.f1, by rw [size_set]; exact h.lt⟩
theorem Var2.put {w : World} {b : Nat} {x y : Value} (h : Var2 w b x y) (u v : Value) : Var2 ((w.setCell ⟨b, 0, none⟩ u).setCell ⟨b, 1, none⟩ v) b u v :=
  ⟨by rw [World.cell?_setCell_other _ _ _ _ (by simp)]; exact World.cell?_setCell_same _ _ _ h.c0, World.cell?_setCell_same _ _ _ ((World.cell?_setCell_other _ _ _ _ (by simp)).trans h.c1), by rw [World.frozen?_setCell, World.frozen?_setCell]; exact h.f0, by rw [World.frozen?_setCell, World.frozen?_setCell]; exact h.f1, by rw [size_set, size_set]; exact h.lt⟩
theorem Wh.store2 {w : World} {neg : Bool} {a : Option Addr} {len cap : Nat} {ds : List Int} {n : Int} {b : Nat} {x y : Value} (h : Wh w neg a len cap ds n) (v : Var2 w b x y) (hx : ∀ k, x ≠ .int .i64 k) (hy : ∀ k, y ≠ .int .i64 k) (u1 u2 : Value) :
    Wh ((w.setCell ⟨b, 0, none⟩ u1).setCell ⟨b, 1, none⟩ u2) neg a len cap ds n := by
  have k1 : (w.setCell ⟨b, 0, none⟩ u1).cell? ⟨b, 1, none⟩ = some y := by rw [World.cell?_setCell_other _ _ _ _ (by simp)]; exact v.c1
  have hat := (h.row.lies.store (v := u1) v.c0 hx).store (v := u2) k1 hy
  exact ⟨⟨h.row.size, hat, h.row.none, h.row.room, h.row.short, h.row.dig⟩, h.norm, h.worth, h.sign⟩
def IsWh (w : World) (x : Int) (bound : Nat) (v : Value) : Prop := ∃ m a l p ds, v = .agg #[.bool m, .slice a l p] ∧ Wh w m a l p ds x ∧ l ≤ bound
theorem IsWh.later {w w' : World} {x : Int} {n : Nat} {v : Value} (h : IsWh w x n v) (hb : Below w.heap.size w w') : IsWh w' x n v := by
  obtain ⟨m, a, l, p, ds, e, hw, hl⟩ := h
  exact ⟨m, a, l, p, ds, e, hw.below hb, hl⟩
theorem of_said {x : Int} {W : World} (h : Calls Tryz.prog 169 #[.int .i64 x] W (MadeWh W x 3)) : Calls Tryz.prog 169 #[.int .i64 x] W fun e w' => ∃ v, e = .returned v ∧ Below W.heap.size W w' ∧ IsWh w' x 3 v :=
  h.mono fun _ _ ⟨m, a, l, p, ds, he, hw, hb, hl⟩ => ⟨_, he, hb, m, a, l, p, ds, rfl, hw, hl⟩
theorem times_said {x y : Int} {W : World} {u v : Value} {n m : Nat} (h1 : IsWh W x n u) (h2 : IsWh W y m v) (hs : n + m < 1000000000) : Calls Tryz.prog 168 #[u, v] W fun e w' => ∃ r, e = .returned r ∧ Below W.heap.size W w' ∧ IsWh w' (x * y) (n + m) r := by
  obtain ⟨m1, a1, l1, p1, d1, rfl, w1, b1⟩ := h1
  obtain ⟨m2, a2, l2, p2, d2, rfl, w2, b2⟩ := h2
  refine (times_any m1 m2 a1 a2 l1 l2 p1 p2 d1 d2 x y W w1 w2 (by omega)).mono ?_
  rintro e w' ⟨m, a, l, p, ds, he, hw, hb, hl⟩
  exact ⟨_, he, hb, m, a, l, p, ds, rfl, hw, by omega⟩
end Go.Proofs.YtolpelfdhcccnaaGreatDoor
