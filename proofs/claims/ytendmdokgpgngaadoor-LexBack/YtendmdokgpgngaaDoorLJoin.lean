/- Two texts with a line's end between them (LexJoins). -/
import Derived.Test.YtendmdokgpgngaaDoorLMoved
namespace Go.Proofs.YtendmdokgpgngaaDoor
open Go.ChangeShapes Go.WideShapes Go.ChangeAt Go.RowKit

theorem text_short {l : List UInt8} (h : l.length ≤ 1048576) : textG l = allL 0 l := by unfold textG; rw [if_neg (by omega)]
theorem nth_mem {ts : List Tok} {k : Nat} (h : k < ts.length) : nthT ts k ∈ ts := by
  unfold nthT
  rw [List.getD_eq_getElem?_getD, List.getElem?_eq_getElem h]
  exact List.getElem_mem h

/-- The facts about the joined text that a walk asks. -/
structure Cat (x y : List UInt8) (C1 C : ByteArray) : Prop where
  z0 : (ByteArray.mk #[10]).size = 1
  z1 : str x ++ ByteArray.mk #[10] = C1
  z2 : C1.size = x.length + 1
  z3 : C1 ++ str y = C
theorem cat_any (x y : List UInt8) : Cat x y (str (x ++ [10])) (str (x ++ 10 :: y)) := by
  refine ⟨rfl, ByteArray.mk_append_mk x [10], by rw [str_size]; simp, ?_⟩
  have := ByteArray.mk_append_mk (x ++ [10]) y
  rw [List.append_assoc] at this
  exact this
def JoinsEnd (w : World) (e : Ending) (w' : World) : Prop := e = .returned (.bool true) ∧ Below w.heap.size w w'

set_option maxHeartbeats 1000000 in
theorem joins_long (x y : List UInt8) (w : World) (hx : x.length ≤ 140737488351232) (hy : y.length ≤ 140737488351232) (h : 1048575 < x.length + y.length) :
    Calls Tryd.prog 8 #[.string (str x), .string (str y)] w (JoinsEnd w) := by
  have e1 := str_size x
  have e2 := str_size y
  have i1 : (1048575 : Int) < (x.length : Int) + (y.length : Int) := by omega
  have i2 : (x.length : Int) ≤ 140737488351232 := by omega
  have i3 : (y.length : Int) ≤ 140737488351232 := by omega
  go_enter Tryd.func8, Tryd.ntmps8
  go_wp2
  go_ret
  exact ⟨rfl, Below.refl _ _⟩

set_option maxRecDepth 100000 in
set_option maxHeartbeats 2000000 in
theorem joins_first (x y : List UInt8) (w : World) (hE : Env w) (h : x.length + y.length ≤ 1048575) (her : (allL 0 x).err ≠ 0) (hj : allL 0 (x ++ 10 :: y) = allL 0 x) :
    Calls Tryd.prog 8 #[.string (str x), .string (str y)] w (JoinsEnd w) := by
  have e1 := str_size x
  have e2 := str_size y
  have i1 : ¬ ((1048575 : Int) < (x.length : Int) + (y.length : Int)) := by omega
  have i1' : decide ((1048575 : Int) < (x.length : Int) + (y.length : Int)) = false := decide_eq_false i1
  have i2 : (x.length : Int) ≤ 1048575 := by omega
  have i3 : (y.length : Int) ≤ 1048575 := by omega
  have g1 : ¬ (9223372036854775807 < x.length + 1) := by omega
  have g2 : ¬ (9223372036854775807 < x.length + 1 + y.length) := by omega
  have hnil := (all_err_nil x.length 0 x (Nat.le_refl _) her).1
  have hC := cat_any x y
  have A1 : Hid (∀ W, Env W → Calls Tryd.prog 9 #[.string (str x)] W fun e w' => ∃ a cap, e = .returned (.tuple #[.slice a 0 cap, .agg #[.int .i64 (allL 0 x).err, .int .i64 (allL 0 x).place]]) ∧ Below W.heap.size W w') := all_fault x 0 _ _ (by rw [text_short (by omega)]; exact ⟨rfl, rfl, by rw [hnil]; rfl⟩)
  have A2 : Hid (∀ W, Env W → Calls Tryd.prog 9 #[.string (str y)] W fun e w' => ∃ a cap, e = .returned (.tuple #[.slice a (textG y).toks.length cap, .agg #[.int .i64 (textG y).err, .int .i64 (textG y).place]]) ∧ Below W.heap.size W w') := all_fault y _ _ _ ⟨rfl, rfl, rfl⟩
  have A3 : Hid (∀ W, Env W → Calls Tryd.prog 9 #[.string (str (x ++ 10 :: y))] W fun e w' => ∃ a cap, e = .returned (.tuple #[.slice a 0 cap, .agg #[.int .i64 (allL 0 x).err, .int .i64 (allL 0 x).place]]) ∧ Below W.heap.size W w') := all_fault (x ++ 10 :: y) 0 _ _ (by rw [text_short (by simp; omega), hj]; exact ⟨rfl, rfl, by rw [hnil]; rfl⟩)
  clear hj hnil
  generalize (allL 0 x).err = er at *
  generalize (allL 0 x).place = pl at *
  generalize (textG y).err = er2 at *
  generalize (textG y).place = pl2 at *
  generalize (textG y).toks.length = n2 at *
  generalize str (x ++ [10]) = C1 at *
  generalize str (x ++ 10 :: y) = C at *
  obtain ⟨z0, z1, z2, z3⟩ := hC
  have her' : decide (er = 0) = false := decide_eq_false her
  have q1 : (er == er) = true := by simp
  have q2 : (pl == pl) = true := by simp
  have HW := hidden awake_any
  have HE := hidden hE
  clear hE h
  have al : Hid (∀ {w1 : World} (o : Obj), Below w.heap.size w w1 → Below w.heap.size w (w1.alloc o)) := fun o h => h.alloc h.size o
  go_enter Tryd.func8, Tryd.ntmps8
  go_wp2_with (first
    | (go_at_call 12; (with_reducible refine (HW.out _ (HE.out.below (al.out _ B3.out))).mono ?_); rintro e w4 ⟨rfl, hb4⟩; have B4 := hidden ((al.out _ B3.out).trans (hb4.mono (al.out _ B3.out).size)); have C4 := (T3.out.alloc _).later hb4; have D4 := (two_new _ _ _ _).later hb4; have t0 := C4.c0; have t1 := C4.c1; have s0 := D4.c0; have s1 := D4.c1; clear hb4 C4 D4)
    | (go_at_call 9; (with_reducible refine (A3.out _ (HE.out.below (al.out _ B2.out))).mono ?_); rintro e w3 ⟨a3, p3, rfl, hb3⟩; have B3 := hidden ((al.out _ B2.out).trans (hb3.mono (al.out _ B2.out).size)); have T3 := hidden ((T2.out.alloc _).later hb3); have m0 := fun o => (T3.out.alloc o).c0; have m1 := fun o => (T3.out.alloc o).c1; clear hb3)
    | (go_at_call 9; (with_reducible refine (A2.out _ (HE.out.below (al.out _ B1.out))).mono ?_); rintro e w2 ⟨a2, p2, rfl, hb2⟩; have B2 := hidden ((al.out _ B1.out).trans (hb2.mono (al.out _ B1.out).size)); have T2 := hidden ((two_new _ _ _ _).later hb2); clear hb2)
    | (go_at_call 9; (with_reducible refine (A1.out _ HE.out).mono ?_); rintro e w1 ⟨a1, p1, rfl, hb1⟩; have B1 := hidden hb1; clear hb1))
  go_ret
  exact ⟨rfl, B4.out⟩
end Go.Proofs.YtendmdokgpgngaaDoor
