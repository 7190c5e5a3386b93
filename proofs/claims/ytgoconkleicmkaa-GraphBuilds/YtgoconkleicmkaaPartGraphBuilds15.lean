/- Texts of one chain. -/
import Derived.Test.YtgoconkleicmkaaPartGraphBuilds14
import Derived.Laws.Concat
namespace Go.Proofs.Ytgoconkleicmkaa
open Go.ChangeShapes Go.WideShapes Go.ChangeAt Go.RowKit
theorem rN (l : List UInt8) : (zW l).toList = l := ByteArray.toList_mk l
theorem pN {B : Nat} {a w w' : World} {k : Nat} (h : Below B a w) (hg : w.grownBy w' (some k)) (hk : B <= k) (hB : B <= w.heap.size) : Below B a w' :=
 h.grown hg hB (fun _ e => by cases e; exact hk)
def yM (l : List UInt8) : Bool := decide (l.length <= 16) && (qL (oX l 0) && decide (vT vY l = l.length))
theorem aF {p : Int -> Bool} {l : List UInt8} : (l.take (vT p l) == l) = decide (vT p l = l.length) := by
 by_cases h : vT p l = l.length
 ·rw [decide_eq_true h, h, List.take_length]; simp
 rw [decide_eq_false h]
 have : ¬ (l.take (vT p l) = l) := by
  intro e
  have h2 := congrArg List.length e
  rw [List.length_take] at h2
  have := nN p l
  omega
 simpa using this
set_option maxHeartbeats 1000000 in
theorem iI (l : List UInt8) (w : World) : Calls Try.prog 61 #[.string (zW l)] w fun e w' => e = .returned (.bool (yM l)) /\ Below w.heap.size w w' := by
 have e1 := wH l
 have en : yM l = (decide (l.length <= 16) && (qL (oX l 0) && decide (vT vY l = l.length))) := rfl
 by_cases h1 : l.length <= 16
 ·have i1 : (l.length : Int) <= 16 := by omega
  have HC : Hid (oR 124 w.heap.size l 0 (w.alloc (.cells #[.string (zW l), .int .i64 0] 124))) := by
   show ((w.heap.push _)[w.heap.size]? = _)
   simp
  have HA : Hid (∀ W, oR 124 w.heap.size l 0 W -> Calls Try.prog 78 #[.pointer (some ⟨w.heap.size, 0, none⟩), .int .i64 0] W fun e w' => e = .returned (.int .u8 (oX l 0)) /\ uC 124 w.heap.size l 0 W w') :=
   fun W hc => (cM _ _ l 0 0 W hc (by omega) (by omega) (by decide)).mono fun _ _ ⟨h1, m, h2⟩ => ⟨h1, by rw [h2]; exact uC.drew hc m⟩
  have HL := wN (pO (oX l 0))
  have HR : Hid (∀ W, oR 124 w.heap.size l 0 W -> Calls Try.prog 79 #[.pointer (some ⟨w.heap.size, 0, none⟩), .func (.func 80) #[] #[]] W fun e w' => e = .returned (.string (zW (l.take (vT vY l)))) /\ uC 124 w.heap.size l (0 + vT vY l) W w') :=
   fun W hc => WR _ _ _ fG _ l 0 W hc (by omega) (by omega)
  have e2 := rN l
  have e3 := rN (l.take (vT vY l))
  have e4 := aF (p := vY) (l := l)
  rw [decide_eq_true h1, Bool.true_and] at en
  rw [en]
  clear en
  have hlow : Hid (∀ w1, (w.alloc (.cells #[.string (zW l), .int .i64 0] 124)).grownBy w1 (some w.heap.size) -> Below w.heap.size w w1) := fun w1 hg =>
   pN ((Below.refl _ _).alloc (Nat.le_refl _) _) hg (Nat.le_refl _) (by simp)
  generalize decide (vT vY l = l.length) = d at *
  generalize vT vY l = N at *
  generalize oX l 0 = x at *
  generalize qL x = y at *
  cases y
  ·go_enter Try.func61, Try.ntmps61
   go_wp2_with (first
    | (go_at_call 77; (with_reducible refine (HL.out _).mono ?_); rintro e w' ⟨rfl, rfl⟩)
    | (go_at_call 78; (with_reducible refine (HA.out _ HC.out).mono ?_); rintro e w1 ⟨rfl, hm1⟩; have M1 := wN hm1; clear hm1))
   go_ret
   exact ⟨rfl, hlow.out _ M1.out.grown⟩
  go_enter Try.func61, Try.ntmps61
  go_wp2_with (first
   | (go_at_call 79; (with_reducible refine (HR.out _ M1.out.cur).mono ?_); rintro e w2 ⟨rfl, hm2⟩; have M2 := wN hm2; clear hm2)
   | (go_at_call 77; (with_reducible refine (HL.out _).mono ?_); rintro e w' ⟨rfl, rfl⟩)
   | (go_at_call 78; (with_reducible refine (HA.out _ HC.out).mono ?_); rintro e w1 ⟨rfl, hm1⟩; have M1 := wN hm1; clear hm1))
  go_ret
  exact ⟨rfl, hlow.out _ (Lib.grownBy_trans M1.out.grown M2.out.grown)⟩
 have i1 : decide ((l.length : Int) <= 16) = false := decide_eq_false (by omega)
 have i2 : ¬ ((l.length : Int) <= 16) := by omega
 rw [decide_eq_false h1, Bool.false_and] at en
 rw [en]
 go_enter Try.func61, Try.ntmps61
 go_wp2
 go_ret
 exact ⟨rfl, (Below.refl _ _).alloc (Nat.le_refl _) _⟩
end Go.Proofs.Ytgoconkleicmkaa
