/- Texts of one chain, laid one behind the other. -/
import Derived.Test.YthgblljokonejaaGreatDoorChain11
import Derived.Test.YthgblljokonejaaGreatDoorChain26
/- The errors' numbers, a name's length (LexNames). -/
namespace Go.Proofs.YthgblljokonejaaGreatDoor
open Go.ChangeShapes Go.WideShapes Go.ChangeAt Go.RowKit

theorem namesA : textG [97, 98, 99, 100, 101, 102, 103, 104, 105, 106, 107, 108, 109, 110, 111, 112, 113] = ⟨[], 42, 0⟩ := by kernel_rfl
theorem namesB : textG [97, 98, 99, 100, 101, 102, 103, 104, 105, 106, 107, 108, 109, 110, 111, 112] = ⟨[⟨1, [97, 98, 99, 100, 101, 102, 103, 104, 105, 106, 107, 108, 109, 110, 111, 112], 0, 0⟩, ⟨0, [], 0, 16⟩], 0, 0⟩ := by kernel_rfl
theorem namesC : textG [120, 32, 45, 48] = ⟨[], 41, 2⟩ := by kernel_rfl
theorem namesD : textG [0] = ⟨[], 40, 0⟩ := by kernel_rfl
theorem namesE : textG [] = ⟨[⟨0, [], 0, 0⟩], 0, 0⟩ := by kernel_rfl
theorem all_fault (l : List UInt8) (n : Nat) (er pl : Int) (h : (textG l).err = er ∧ (textG l).place = pl ∧ (textG l).toks.length = n) (W : World) (hW : Env W) :
    Calls Tryz.prog 15 #[.string (str l)] W fun e w' => ∃ a cap, e = .returned (.tuple #[.slice a n cap, .agg #[.int .i64 er, .int .i64 pl]]) ∧ Below W.heap.size W w' :=
  (all_any l W hW).mono fun _ w' ⟨v, he, ht, hb⟩ => by
    obtain ⟨a, cap, rfl⟩ := ht.shape
    rw [h.1, h.2.1, h.2.2] at he
    exact ⟨a, cap, he, hb⟩
/-- A variable that was made stands behind a call, and behind what is made then. -/
structure Two (w : World) (n : Nat) (x y : Value) : Prop where
  lt : n < w.heap.size
  c0 : w.cell? ⟨n, 0, none⟩ = some x
  c1 : w.cell? ⟨n, 1, none⟩ = some y
theorem two_new (w : World) (x y : Value) (T : TypeId) : Two (w.alloc (.cells #[x, y] T)) w.heap.size x y := ⟨by simp, by simp, by simp⟩
theorem Two.later {w w' : World} {n : Nat} {x y : Value} (h : Two w n x y) (hb : Below w.heap.size w w') : Two w' n x y := ⟨Nat.lt_of_lt_of_le h.lt hb.size, (hb.cell (p := ⟨n, 0, none⟩) h.lt).trans h.c0, (hb.cell (p := ⟨n, 1, none⟩) h.lt).trans h.c1⟩
theorem Two.alloc {w : World} {n : Nat} {x y : Value} (h : Two w n x y) (o : Obj) : Two (w.alloc o) n x y := h.later ((Below.refl _ _).alloc (Nat.le_refl _) _)
end Go.Proofs.YthgblljokonejaaGreatDoor

/- Tokens further on in a text (moved). -/
namespace Go.Proofs.YthgblljokonejaaGreatDoor
open Go.ChangeShapes Go.WideShapes Go.ChangeAt Go.RowKit

theorem Toks.snoc {base w v ts t} (h : w.ownsRow base 46 4 v (ts.length + 1) (ts.flatMap tokC ++ tokC t)) : Toks base w v (ts ++ [t]) := by
  unfold Toks
  rw [List.flatMap_append, List.length_append]
  simpa [List.flatMap] using h
theorem drop_nthT : ∀ (ts : List Tok) (k : Nat), k < ts.length → ts.take (k + 1) = ts.take k ++ [nthT ts k]
  | [], k, h => by simp at h
  | t :: ts, 0, _ => rfl
  | t :: ts, k + 1, h => by
    rw [List.take_succ_cons, List.take_succ_cons, drop_nthT ts k (by simp at h; omega)]
    rfl
end Go.Proofs.YthgblljokonejaaGreatDoor

/- Two texts with a line's end between them (LexJoins). -/
namespace Go.Proofs.YthgblljokonejaaGreatDoor
open Go.ChangeShapes Go.WideShapes Go.ChangeAt Go.RowKit

theorem text_short {l : List UInt8} (h : l.length ≤ 1048576) : textG l = allL 0 l := by unfold textG; rw [if_neg (by omega)]
theorem nth_mem {ts : List Tok} {k : Nat} (h : k < ts.length) : nthT ts k ∈ ts := by
  unfold nthT
  rw [List.getD_eq_getElem?_getD, List.getElem?_eq_getElem h]
  exact List.getElem_mem h

/-- The facts about the joined text that a walk asks. -/
structure Cat (x y : List UInt8) (C1 C : ByteArray) : Prop where
  z0 : (ByteArray.mk #[10]).size = 1
  z1 : str x ++ ByteArray.mk #[10] = C1
  z2 : C1.size = x.length + 1
  z3 : C1 ++ str y = C
theorem cat_any (x y : List UInt8) : Cat x y (str (x ++ [10])) (str (x ++ 10 :: y)) := by
  refine ⟨rfl, ByteArray.mk_append_mk x [10], by rw [str_size]; simp, ?_⟩
  have := ByteArray.mk_append_mk (x ++ [10]) y
  rw [List.append_assoc] at this
  exact this
def JoinsEnd (w : World) (e : Ending) (w' : World) : Prop := e = .returned (.bool true) ∧ Below w.heap.size w w'

end Go.Proofs.YthgblljokonejaaGreatDoor
