/- The errors' numbers, a name's length (LexNames). -/
import Derived.Test.YtendmdokgpgngaaDoorLNamed
namespace Go.Proofs.YtendmdokgpgngaaDoor
open Go.ChangeShapes Go.WideShapes Go.ChangeAt Go.RowKit

theorem namesA : textG [97, 98, 99, 100, 101, 102, 103, 104, 105, 106, 107, 108, 109, 110, 111, 112, 113] = ⟨[], 42, 0⟩ := by kernel_rfl
theorem namesB : textG [97, 98, 99, 100, 101, 102, 103, 104, 105, 106, 107, 108, 109, 110, 111, 112] = ⟨[⟨1, [97, 98, 99, 100, 101, 102, 103, 104, 105, 106, 107, 108, 109, 110, 111, 112], 0, 0⟩, ⟨0, [], 0, 16⟩], 0, 0⟩ := by kernel_rfl
theorem namesC : textG [120, 32, 45, 48] = ⟨[], 41, 2⟩ := by kernel_rfl
theorem namesD : textG [0] = ⟨[], 40, 0⟩ := by kernel_rfl
theorem namesE : textG [] = ⟨[⟨0, [], 0, 0⟩], 0, 0⟩ := by kernel_rfl
theorem all_fault (l : List UInt8) (n : Nat) (er pl : Int) (h : (textG l).err = er ∧ (textG l).place = pl ∧ (textG l).toks.length = n) (W : World) (hW : Env W) :
    Calls Tryd.prog 9 #[.string (str l)] W fun e w' => ∃ a cap, e = .returned (.tuple #[.slice a n cap, .agg #[.int .i64 er, .int .i64 pl]]) ∧ Below W.heap.size W w' :=
  (all_any l W hW).mono fun _ w' ⟨v, he, ht, hb⟩ => by
    obtain ⟨a, cap, rfl⟩ := ht.shape
    rw [h.1, h.2.1, h.2.2] at he
    exact ⟨a, cap, he, hb⟩
/-- A variable that was made stands behind a call, and behind what is made then. -/
structure Two (w : World) (n : Nat) (x y : Value) : Prop where
  lt : n < w.heap.size
  c0 : w.cell? ⟨n, 0, none⟩ = some x
  c1 : w.cell? ⟨n, 1, none⟩ = some y
theorem two_new (w : World) (x y : Value) (T : TypeId) : Two (w.alloc (.cells #[x, y] T)) w.heap.size x y := ⟨by simp, by simp, by simp⟩
theorem Two.later {w w' : World} {n : Nat} {x y : Value} (h : Two w n x y) (hb : Below w.heap.size w w') : Two w' n x y := ⟨Nat.lt_of_lt_of_le h.lt hb.size, (hb.cell (p := ⟨n, 0, none⟩) h.lt).trans h.c0, (hb.cell (p := ⟨n, 1, none⟩) h.lt).trans h.c1⟩
theorem Two.alloc {w : World} {n : Nat} {x y : Value} (h : Two w n x y) (o : Obj) : Two (w.alloc o) n x y := h.later ((Below.refl _ _).alloc (Nat.le_refl _) _)
end Go.Proofs.YtendmdokgpgngaaDoor
