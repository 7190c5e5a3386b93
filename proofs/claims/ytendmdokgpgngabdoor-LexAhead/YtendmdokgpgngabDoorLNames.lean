/- The errors' numbers, a name's length (LexNames). -/
import Derived.Test.YtendmdokgpgngabDoorLNamed
namespace Go.Proofs.YtendmdokgpgngabDoor
open Go.ChangeShapes Go.WideShapes Go.ChangeAt Go.RowKit

theorem namesA : textG [97, 98, 99, 100, 101, 102, 103, 104, 105, 106, 107, 108, 109, 110, 111, 112, 113] = ⟨[], 42, 0⟩ := by kernel_rfl
theorem namesB : textG [97, 98, 99, 100, 101, 102, 103, 104, 105, 106, 107, 108, 109, 110, 111, 112] = ⟨[⟨1, [97, 98, 99, 100, 101, 102, 103, 104, 105, 106, 107, 108, 109, 110, 111, 112], 0, 0⟩, ⟨0, [], 0, 16⟩], 0, 0⟩ := by kernel_rfl
theorem namesC : textG [120, 32, 45, 48] = ⟨[], 41, 2⟩ := by kernel_rfl
theorem namesD : textG [0] = ⟨[], 40, 0⟩ := by kernel_rfl
theorem namesE : textG [] = ⟨[⟨0, [], 0, 0⟩], 0, 0⟩ := by kernel_rfl
theorem all_fault (l : List UInt8) (n : Nat) (er pl : Int) (h : (textG l).err = er ∧ (textG l).place = pl ∧ (textG l).toks.length = n) (W : World) (hW : Env W) :
    Calls Tryd.prog 5 #[.string (str l)] W fun e w' => ∃ a cap, e = .returned (.tuple #[.slice a n cap, .agg #[.int .i64 er, .int .i64 pl]]) ∧ Below W.heap.size W w' :=
  (all_any l W hW).mono fun _ w' ⟨v, he, ht, hb⟩ => by
    obtain ⟨a, cap, rfl⟩ := ht.shape
    rw [h.1, h.2.1, h.2.2] at he
    exact ⟨a, cap, he, hb⟩
/-- A variable that was made stands behind a call, and behind what is made then. -/
structure Two (w : World) (n : Nat) (x y : Value) : Prop where
  lt : n < w.heap.size
  c0 : w.cell? ⟨n, 0, none⟩ = some x
  c1 : w.cell? ⟨n, 1, none⟩ = some y
theorem two_new (w : World) (x y : Value) (T : TypeId) : Two (w.alloc (.cells #[x, y] T)) w.heap.size x y := ⟨by simp, by simp, by simp⟩
theorem Two.later {w w' : World} {n : Nat} {x y : Value} (h : Two w n x y) (hb : Below w.heap.size w w') : Two w' n x y := ⟨Nat.lt_of_lt_of_le h.lt hb.size, (hb.cell (p := ⟨n, 0, none⟩) h.lt).trans h.c0, (hb.cell (p := ⟨n, 1, none⟩) h.lt).trans h.c1⟩
theorem Two.alloc {w : World} {n : Nat} {x y : Value} (h : Two w n x y) (o : Obj) : Two (w.alloc o) n x y := h.later ((Below.refl _ _).alloc (Nat.le_refl _) _)
set_option maxRecDepth 100000 in
set_option maxHeartbeats 4000000 in
theorem lexNames_walk (w : World) (hE : Env w) : Calls Tryd.prog 4 #[] w fun e w' => e = .returned (.bool true) ∧ Below w.heap.size w w' := by
  have A1 : Hid (∀ W, Env W → Calls Tryd.prog 5 #[.string ⟨#[97, 98, 99, 100, 101, 102, 103, 104, 105, 106, 107, 108, 109, 110, 111, 112, 113]⟩] W fun e w' => ∃ a cap, e = .returned (.tuple #[.slice a 0 cap, .agg #[.int .i64 42, .int .i64 0]]) ∧ Below W.heap.size W w') := all_fault _ 0 42 0 (by rw [namesA]; exact ⟨rfl, rfl, rfl⟩)
  have A2 : Hid (∀ W, Env W → Calls Tryd.prog 5 #[.string ⟨#[97, 98, 99, 100, 101, 102, 103, 104, 105, 106, 107, 108, 109, 110, 111, 112]⟩] W fun e w' => ∃ a cap, e = .returned (.tuple #[.slice a 2 cap, .agg #[.int .i64 0, .int .i64 0]]) ∧ Below W.heap.size W w') := all_fault _ 2 0 0 (by rw [namesB]; exact ⟨rfl, rfl, rfl⟩)
  have A3 : Hid (∀ W, Env W → Calls Tryd.prog 5 #[.string ⟨#[120, 32, 45, 48]⟩] W fun e w' => ∃ a cap, e = .returned (.tuple #[.slice a 0 cap, .agg #[.int .i64 41, .int .i64 2]]) ∧ Below W.heap.size W w') := all_fault _ 0 41 2 (by rw [namesC]; exact ⟨rfl, rfl, rfl⟩)
  have A4 : Hid (∀ W, Env W → Calls Tryd.prog 5 #[.string ⟨#[0]⟩] W fun e w' => ∃ a cap, e = .returned (.tuple #[.slice a 0 cap, .agg #[.int .i64 40, .int .i64 0]]) ∧ Below W.heap.size W w') := all_fault _ 0 40 0 (by rw [namesD]; exact ⟨rfl, rfl, rfl⟩)
  have A5 : Hid (∀ W, Env W → Calls Tryd.prog 5 #[.string ⟨#[]⟩] W fun e w' => ∃ a cap, e = .returned (.tuple #[.slice a 1 cap, .agg #[.int .i64 0, .int .i64 0]]) ∧ Below W.heap.size W w') := all_fault _ 1 0 0 (by rw [namesE]; exact ⟨rfl, rfl, rfl⟩)
  have N1 : Hid (∀ W, Calls Tryd.prog 8 #[.string ⟨#[97, 98, 99, 100, 101, 102, 103, 104, 105, 106, 107, 108, 109, 110, 111, 112, 113]⟩] W fun e w' => e = .returned (.bool false) ∧ Below W.heap.size W w') := fun W => name_any [97, 98, 99, 100, 101, 102, 103, 104, 105, 106, 107, 108, 109, 110, 111, 112, 113] W
  have N2 : Hid (∀ W, Calls Tryd.prog 8 #[.string ⟨#[97, 98, 99, 100, 101, 102, 103, 104, 105, 106, 107, 108, 109, 110, 111, 112]⟩] W fun e w' => e = .returned (.bool true) ∧ Below W.heap.size W w') := fun W => name_any [97, 98, 99, 100, 101, 102, 103, 104, 105, 106, 107, 108, 109, 110, 111, 112] W
  have HW := hidden awake_any
  have HE := hidden hE
  clear hE
  have al : Hid (∀ {w1 : World} (o : Obj), Below w.heap.size w w1 → Below w.heap.size w (w1.alloc o)) := fun o h => h.alloc h.size o
  have ba : ∀ (W : World) (o : Obj), Below W.heap.size W (W.alloc o) := fun W o => (Below.refl _ _).alloc (Nat.le_refl _) _
  have BA := hidden ba
  clear ba
  go_enter Tryd.func4, Tryd.ntmps4
  go_wp2_with (first
    | (go_at_call 8; (with_reducible refine (N2.out _).mono ?_); rintro e w8 ⟨rfl, hb8⟩; have B8 := hidden (B7.out.trans (hb8.mono B7.out.size)); clear hb8)
    | (go_at_call 8; (with_reducible refine (N1.out _).mono ?_); rintro e w7 ⟨rfl, hb7⟩; have B7 := hidden (B6.out.trans (hb7.mono B6.out.size)); clear hb7)
    | (go_at_call 6; (with_reducible refine (HW.out _ (HE.out.below (al.out _ B5.out))).mono ?_); rintro e w6 ⟨rfl, hb6⟩; have B6 := hidden ((al.out _ B5.out).trans (hb6.mono (al.out _ B5.out).size)); have C6 := (T5.out.alloc _).later hb6; have D6 := (S5.out.alloc _).later hb6; have F6 := (R5.out.alloc _).later hb6; have t0 := C6.c0; have t1 := C6.c1; have s0 := D6.c0; have s1 := D6.c1; have r0 := F6.c0; have r1 := F6.c1; clear hb6 C6 D6 F6)
    | (go_at_call 5; (with_reducible refine (A5.out _ (HE.out.below (al.out _ B4.out))).mono ?_); rintro e w5 ⟨a5, p5, rfl, hb5⟩; have B5 := hidden ((al.out _ B4.out).trans (hb5.mono (al.out _ B4.out).size)); have T5 := hidden ((T4.out.alloc _).later hb5); have S5 := hidden ((S4.out.alloc _).later hb5); have R5 := hidden ((two_new _ _ _ _).later hb5); have Q5 := hidden ((Q4.out.alloc _).later hb5); have q0 := fun o => (Q5.out.alloc o).c0; have q1 := fun o => (Q5.out.alloc o).c1; clear hb5)
    | (go_at_call 5; (with_reducible refine (A4.out _ (HE.out.below (al.out _ B3.out))).mono ?_); rintro e w4 ⟨a4, p4, rfl, hb4⟩; have B4 := hidden ((al.out _ B3.out).trans (hb4.mono (al.out _ B3.out).size)); have T4 := hidden ((T3.out.alloc _).later hb4); have S4 := hidden ((two_new _ _ _ _).later hb4); have Q4 := hidden ((Q3.out.alloc _).later hb4); clear hb4)
    | (go_at_call 5; (with_reducible refine (A3.out _ (HE.out.below (al.out _ B2.out))).mono ?_); rintro e w3 ⟨a3, p3, rfl, hb3⟩; have B3 := hidden ((al.out _ B2.out).trans (hb3.mono (al.out _ B2.out).size)); have T3 := hidden ((T2.out.alloc _).later hb3); have Q3 := hidden ((two_new _ _ _ _).later hb3); clear hb3)
    | (go_at_call 5; (with_reducible refine (A2.out _ (HE.out.below (al.out _ B1.out))).mono ?_); rintro e w2 ⟨a2, p2, rfl, hb2⟩; have B2 := hidden ((al.out _ B1.out).trans (hb2.mono (al.out _ B1.out).size)); have T2 := hidden ((two_new _ _ _ _).later hb2); clear hb2)
    | (go_at_call 5; (with_reducible refine (A1.out _ HE.out).mono ?_); rintro e w1 ⟨a1, p1, rfl, hb1⟩; have B1 := hidden hb1; clear hb1))
  go_ret
  exact ⟨rfl, B8.out⟩
end Go.Proofs.YtendmdokgpgngabDoor
