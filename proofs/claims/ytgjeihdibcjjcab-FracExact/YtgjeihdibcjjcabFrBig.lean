/- Regions that reckon with numbers of any length and lay a variable at whatever moment. -/
import Derived.Test.YtgjeihdibcjjcabFrArg
import Derived.Test.YtgjeihdibcjjcabBigTimesB
import Derived.Test.YtgjeihdibcjjcabBigOf
import Derived.Test.YtgjeihdibcjjcabRegInv
namespace Go.Proofs.Ytgjeihdibcjjcab
open Go.ChangeShapes Go.WideShapes Go.ChangeAt Go.RowKit

/-- What was laid last, ahead of a call that turned nothing old. -/
theorem newest2 {V w1 : World} {x y : Value} {t : TypeId} (hb : Below (V.alloc (.cells #[x, y] t)).heap.size (V.alloc (.cells #[x, y] t)) w1) : Var2 w1 V.heap.size x y :=
  (var2_new V x y t).later hb (var2_new V x y t).lt
theorem newest2d {V w1 : World} {x y : Value} {t : TypeId} (hb : Below (V.alloc (.cells #[x, y] t)).drew.heap.size (V.alloc (.cells #[x, y] t)).drew w1) : Var2 w1 V.heap.size x y :=
  (var2_new V x y t).later (((Below.refl _ _).drew).trans hb) (var2_new V x y t).lt

theorem newest2s {V w1 : World} {x y : Value} {t : TypeId} (hb : Below (V.heap.size + 1) (V.alloc (.cells #[x, y] t)) w1) : Var2 w1 V.heap.size x y :=
  (var2_new V x y t).later hb (Nat.lt_succ_self _)
theorem newest2t {V w1 : World} {x y : Value} {t : TypeId} (hb : Below (V.heap.size + 1) (V.alloc (.cells #[x, y] t)).drew w1) : Var2 w1 V.heap.size x y :=
  (var2_new V x y t).later (((Below.refl (V.heap.size + 1) (V.alloc (.cells #[x, y] t))).drew).trans hb) (Nat.lt_succ_self _)

/-- A number of any length lies as it did behind stores into a variable of its kind. -/
theorem Wh.store2 {w : World} {neg : Bool} {a : Option Addr} {len cap : Nat} {ds : List Int} {n : Int} {b : Nat} {x y : Value} (h : Wh w neg a len cap ds n) (v : Var2 w b x y) (hx : ∀ k, x ≠ .int .i64 k) (hy : ∀ k, y ≠ .int .i64 k) (u1 u2 : Value) :
    Wh ((w.setCell ⟨b, 0, none⟩ u1).setCell ⟨b, 1, none⟩ u2) neg a len cap ds n := by
  have k1 : (w.setCell ⟨b, 0, none⟩ u1).cell? ⟨b, 1, none⟩ = some y := by rw [World.cell?_setCell_other _ _ _ _ (by simp)]; exact v.c1
  have hat := (h.row.lies.store (v := u1) v.c0 hx).store (v := u2) k1 hy
  exact ⟨⟨h.row.size, hat, h.row.none, h.row.room, h.row.short, h.row.dig⟩, h.norm, h.worth, h.sign⟩


/-- A value that is this number of any length, in this world; a variable that was laid since. -/
def IsWh (w : World) (x : Int) (bound : Nat) (v : Value) : Prop := ∃ m a l p ds, v = .agg #[.bool m, .slice a l p] ∧ Wh w m a l p ds x ∧ l ≤ bound
def IsNew (B : Nat) (w : World) (x y : Value) (v : Value) : Prop := ∃ b, v = .pointer (some ⟨b, 0, none⟩) ∧ Var2 w b x y ∧ B ≤ b
theorem IsWh.later {w w' : World} {x : Int} {n : Nat} {v : Value} (h : IsWh w x n v) (hb : Below w.heap.size w w') : IsWh w' x n v := by
  obtain ⟨m, a, l, p, ds, e, hw, hl⟩ := h
  exact ⟨m, a, l, p, ds, e, hw.below hb, hl⟩
theorem IsNew.later {B : Nat} {w w' : World} {x y v : Value} (h : IsNew B w x y v) (hb : Below w.heap.size w w') : IsNew B w' x y v := by
  obtain ⟨b, e, hv, hB⟩ := h
  exact ⟨b, e, hv.later hb hv.lt, hB⟩
theorem of_said {x : Int} {W : World} (h : Calls Try.prog 12 #[.int .i64 x] W (MadeWh W x 3)) : Calls Try.prog 12 #[.int .i64 x] W fun e w' => ∃ v, e = .returned v ∧ Below W.heap.size W w' ∧ IsWh w' x 3 v :=
  h.mono fun _ _ ⟨m, a, l, p, ds, he, hw, hb, hl⟩ => ⟨_, he, hb, m, a, l, p, ds, rfl, hw, hl⟩
theorem times_said {x y : Int} {W : World} {u v : Value} {n m : Nat} (h1 : IsWh W x n u) (h2 : IsWh W y m v) (hs : n + m < 1000000000) : Calls Try.prog 11 #[u, v] W fun e w' => ∃ r, e = .returned r ∧ Below W.heap.size W w' ∧ IsWh w' (x * y) (n + m) r := by
  obtain ⟨m1, a1, l1, p1, d1, rfl, w1, b1⟩ := h1
  obtain ⟨m2, a2, l2, p2, d2, rfl, w2, b2⟩ := h2
  refine (times_any m1 m2 a1 a2 l1 l2 p1 p2 d1 d2 x y W w1 w2 (by omega)).mono ?_
  rintro e w' ⟨m, a, l, p, ds, he, hw, hb, hl⟩
  exact ⟨_, he, hb, m, a, l, p, ds, rfl, hw, by omega⟩
end Go.Proofs.Ytgjeihdibcjjcab
