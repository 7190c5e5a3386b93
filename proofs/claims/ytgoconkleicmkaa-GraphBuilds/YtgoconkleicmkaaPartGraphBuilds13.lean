/- Texts of one chain. -/
import Derived.Test.YtgoconkleicmkaaPartGraphBuilds1
import Derived.Test.YtgoconkleicmkaaPartGraphBuilds8
import Derived.Laws.Strings2
import Derived.Laws.Strings3
import Derived.Laws.Pointers
import Derived.Laws.NewBlocks
import Derived.Deep.QuietTactic
import Derived.Lib.BufferOwn
import Derived.Lib.HexFns2
namespace Go.Proofs.Ytgoconkleicmkaa
open Go.ChangeShapes Go.WideShapes Go.ChangeAt Go.RowKit
theorem wN {p : Prop} (h : p) : Hid p := h
theorem pO (b : Int) (w : World) : Calls Try.prog 77 #[.int .u8 b] w fun e w' => e = .returned (.bool (qL b)) /\ w = w' := by
 by_cases h1 : (97 : Int) <= b <;> by_cases h2 : b <= 122 <;>
 ·have e : qL b = (decide (97 <= b) && decide (b <= 122)) := rfl
  simp only [h1, h2, decide_true, decide_false, Bool.and_true, Bool.and_false] at e
  rw [e]
  go_enter Try.func77, Try.ntmps77
  go_wp2
  go_ret
  exact ⟨rfl, rfl⟩
theorem iJ (b : Int) (w : World) : Calls Try.prog 87 #[.int .u8 b] w fun e w' => e = .returned (.bool (jQ b)) /\ w = w' := by
 by_cases h1 : (48 : Int) <= b <;> by_cases h2 : b <= 57 <;>
 ·have e : jQ b = (decide (48 <= b) && decide (b <= 57)) := rfl
  simp only [h1, h2, decide_true, decide_false, Bool.and_true, Bool.and_false] at e
  rw [e]
  go_enter Try.func87, Try.ntmps87
  go_wp2
  go_ret
  exact ⟨rfl, rfl⟩
theorem fH (b : Int) (w : World) : Calls Try.prog 80 #[.int .u8 b] w fun e w' => e = .returned (.bool (vY b)) /\ w = w' := by
 have e : vY b = (qL b || jQ b || decide (b = 95)) := rfl
 rw [e]
 clear e
 have h1 := wN (pO b)
 have h2 := wN (iJ b)
 generalize qL b = x at *
 generalize jQ b = y at *
 cases x <;> cases y
 ·by_cases h3 : b = 95
  ·subst h3
   go_enter Try.func80, Try.ntmps80
   go_wp2_with (first
    | (go_at_call 87; (with_reducible refine (h2.out _).mono ?_); rintro e w' ⟨rfl, rfl⟩)
    | (go_at_call 77; (with_reducible refine (h1.out _).mono ?_); rintro e w' ⟨rfl, rfl⟩))
   go_ret
   exact ⟨rfl, rfl⟩
  have d3 : decide (b = 95) = false := decide_eq_false h3
  go_enter Try.func80, Try.ntmps80
  go_wp2_with (first
   | (go_at_call 87; (with_reducible refine (h2.out _).mono ?_); rintro e w' ⟨rfl, rfl⟩)
   | (go_at_call 77; (with_reducible refine (h1.out _).mono ?_); rintro e w' ⟨rfl, rfl⟩))
  go_ret
  exact ⟨by simp [h3], rfl⟩
 all_goals
  go_enter Try.func80, Try.ntmps80
  go_wp2_with (first
   | (go_at_call 87; (with_reducible refine (h2.out _).mono ?_); rintro e w' ⟨rfl, rfl⟩)
   | (go_at_call 77; (with_reducible refine (h1.out _).mono ?_); rintro e w' ⟨rfl, rfl⟩))
  go_ret
  exact ⟨rfl, rfl⟩
def zW (l : List UInt8) : ByteArray := ⟨l.toArray⟩
theorem wH (l : List UInt8) : (zW l).size = l.length := by simp [zW, ByteArray.size]
theorem nM (l : List UInt8) (i : Nat) (h : i < (zW l).size) : (((zW l)[i]'h).toNat : Int) = oX l i := by
 have h' : i < l.length := by rw [wH] at h; exact h
 have e1 : oX l i = ((l[i]'h').toNat : Int) := by
  unfold oX
  rw [List.getD_eq_getElem?_getD, List.getElem?_eq_getElem h']
  rfl
 rw [e1]
 rfl
theorem WS (l : List UInt8) (a n : Nat) : (zW l).extract a (a + n) = zW ((l.drop a).take n) := by
 unfold zW
 rw [ByteArray.extract_mk, Nat.add_sub_cancel_left]
def oR (T : TypeId) (b : Nat) (l : List UInt8) (p : Nat) (w : World) : Prop := w.heap[b]? = some (.cells #[.string (zW l), .int .i64 (p : Int)] T (0, 0))
theorem oR.c0 {T b l p w} (h : oR T b l p w) : w.cell? ⟨b, 0, none⟩ = some (.string (zW l)) := by
 unfold oR at h
 simp [World.cell?, h]
theorem oR.c1 {T b l p w} (h : oR T b l p w) : w.cell? ⟨b, 1, none⟩ = some (.int .i64 (p : Int)) := by
 unfold oR at h
 simp [World.cell?, h]
theorem oR.f1 {T b l p w} (h : oR T b l p w) : w.frozen? ⟨b, 1, none⟩ = false := by
 unfold oR at h
 simp [World.frozen?, h]
theorem oR.kept {T b l p w w'} (h : oR T b l p w) (hb : w'.heap[b]? = w.heap[b]?) : oR T b l p w' := hb.trans h
theorem cM (T : TypeId) (b : Nat) (l : List UInt8) (p n : Nat) (w : World) (h : oR T b l p w) (hp : p <= l.length) (hl : l.length <= 1048576) (hn : n <= 1) :
 Calls Try.prog 78 #[.pointer (some ⟨b, 0, none⟩), .int .i64 (n : Int)] w fun e w' => e = .returned (.int .u8 (oX (l.drop p) n)) /\ ∃ m, w' = w.drewN m := by
 have h0 := h.c0
 have h1 := h.c1
 have e1 := wH l
 have s1 : IntKind.i64.wrap ((l.length : Int) - (p : Int)) = (l.length : Int) - (p : Int) := by rw [IntKind.wrap_i64]; omega
 have s2 : IntKind.i64.wrap ((p : Int) + (n : Int)) = (p : Int) + (n : Int) := by rw [IntKind.wrap_i64]; omega
 rw [mZ]
 by_cases hq : (l.length : Int) - (p : Int) <= (n : Int)
 ·rw [YC (by omega)]
  go_enter Try.func78, Try.ntmps78
  go_wp2
  go_quiet (fail)
  go_wp2
  go_ret
  exact ⟨rfl, _, rfl⟩
 have hq' : decide ((l.length : Int) - (p : Int) <= (n : Int)) = false := decide_eq_false hq
 have i0 : (0 : Int) <= (p : Int) + (n : Int) := by omega
 have i1 : (p : Int) + (n : Int) < (l.length : Int) := by omega
 have i2 : p + n < (zW l).size := by rw [e1]; omega
 have g := nM l (p + n) i2
 have i3 : ((p : Int) + (n : Int)).toNat = p + n := by omega
 go_enter Try.func78, Try.ntmps78
 go_wp2
 go_quiet (fail)
 go_wp2
 go_quiet (fail)
 go_wp2
 go_ret
 exact ⟨rfl, _, World.drewN_drewN _ _ _⟩
end Go.Proofs.Ytgoconkleicmkaa
