/- Texts of one chain, laid one behind the other. -/
import Derived.Test.YtmnbapcbailcbaaGreatPartTopPeriods26
import Derived.Laws.Concat
namespace Go.Proofs.YtmnbapcbailcbaaGreat
open Go.ChangeShapes Go.WideShapes Go.ChangeAt Go.RowKit
theorem gstr_list (l : List UInt8) : (str l).toList = l := ByteArray.toList_mk l
theorem gbelow_grown {B : Nat} {a w w' : World} {k : Nat} (h : Below B a w) (hg : w.grownBy w' (some k)) (hk : B ≤ k) (hB : B ≤ w.heap.size) : Below B a w' :=
  h.grown hg hB (fun _ e => by cases e; exact hk)
/-- Is a text a name? -/
def nameB (l : List UInt8) : Bool := decide (l.length ≤ 16) && (letB (by8 l 0) && decide (rowN wordB l = l.length))
theorem take_row {p : Int → Bool} {l : List UInt8} : (l.take (rowN p l) == l) = decide (rowN p l = l.length) := by
  by_cases h : rowN p l = l.length
  · rw [decide_eq_true h, h, List.take_length]; simp
  · rw [decide_eq_false h]
    have : ¬ (l.take (rowN p l) = l) := by
      intro e
      have h2 := congrArg List.length e
      rw [List.length_take] at h2
      have := rowN_le p l
      omega
    simpa using this
set_option maxHeartbeats 1000000 in
theorem name_any (l : List UInt8) (w : World) : Calls Tryz.prog 83 #[.string (str l)] w fun e w' => e = .returned (.bool (nameB l)) ∧ Below w.heap.size w w' := by
  have e1 := str_size l
  have en : nameB l = (decide (l.length ≤ 16) && (letB (by8 l 0) && decide (rowN wordB l = l.length))) := rfl
  by_cases h1 : l.length ≤ 16
  · have i1 : (l.length : Int) ≤ 16 := by omega
    have HC : Hid (Cur 181 w.heap.size l 0 (w.alloc (.cells #[.string (str l), .int .i64 0] 181))) := by
      show ((w.heap.push _)[w.heap.size]? = _)
      simp
    have HA : Hid (∀ W, Cur 181 w.heap.size l 0 W → Calls Tryz.prog 105 #[.pointer (some ⟨w.heap.size, 0, none⟩), .int .i64 0] W fun e w' => e = .returned (.int .u8 (by8 l 0)) ∧ Moved 181 w.heap.size l 0 W w') :=
      fun W hc => (ahead_any _ _ l 0 0 W hc (by omega) (by omega) (by decide)).mono fun _ _ ⟨h1, m, h2⟩ => ⟨h1, by rw [h2]; exact Moved.drew hc m⟩
    have HL := hidden (isLetter_any (by8 l 0))
    have HR : Hid (∀ W, Cur 181 w.heap.size l 0 W → Calls Tryz.prog 106 #[.pointer (some ⟨w.heap.size, 0, none⟩), .func (.func 107) #[] #[]] W fun e w' => e = .returned (.string (str (l.take (rowN wordB l)))) ∧ Moved 181 w.heap.size l (0 + rowN wordB l) W w') :=
      fun W hc => row_any _ _ _ tells_word _ l 0 W hc (by omega) (by omega)
    have e2 := gstr_list l
    have e3 := gstr_list (l.take (rowN wordB l))
    have e4 := take_row (p := wordB) (l := l)
    rw [decide_eq_true h1, Bool.true_and] at en
    rw [en]
    clear en
    have hlow : Hid (∀ w1, (w.alloc (.cells #[.string (str l), .int .i64 0] 181)).grownBy w1 (some w.heap.size) → Below w.heap.size w w1) := fun w1 hg =>
      gbelow_grown ((Below.refl _ _).alloc (Nat.le_refl _) _) hg (Nat.le_refl _) (by simp)
    generalize decide (rowN wordB l = l.length) = d at *
    generalize rowN wordB l = N at *
    generalize by8 l 0 = x at *
    generalize letB x = y at *
    cases y
    · go_enter Tryz.func83, Tryz.ntmps83
      go_wp2_with (first
        | (go_at_call 104; (with_reducible refine (HL.out _).mono ?_); rintro e w' ⟨rfl, rfl⟩)
        | (go_at_call 105; (with_reducible refine (HA.out _ HC.out).mono ?_); rintro e w1 ⟨rfl, hm1⟩; have M1 := hidden hm1; clear hm1))
      go_ret
      exact ⟨rfl, hlow.out _ M1.out.grown⟩
    · go_enter Tryz.func83, Tryz.ntmps83
      go_wp2_with (first
        | (go_at_call 106; (with_reducible refine (HR.out _ M1.out.cur).mono ?_); rintro e w2 ⟨rfl, hm2⟩; have M2 := hidden hm2; clear hm2)
        | (go_at_call 104; (with_reducible refine (HL.out _).mono ?_); rintro e w' ⟨rfl, rfl⟩)
        | (go_at_call 105; (with_reducible refine (HA.out _ HC.out).mono ?_); rintro e w1 ⟨rfl, hm1⟩; have M1 := hidden hm1; clear hm1))
      go_ret
      exact ⟨rfl, hlow.out _ (Lib.grownBy_trans M1.out.grown M2.out.grown)⟩
  · have i1 : decide ((l.length : Int) ≤ 16) = false := decide_eq_false (by omega)
    have i2 : ¬ ((l.length : Int) ≤ 16) := by omega
    rw [decide_eq_false h1, Bool.false_and] at en
    rw [en]
    go_enter Tryz.func83, Tryz.ntmps83
    go_wp2
    go_ret
    exact ⟨rfl, (Below.refl _ _).alloc (Nat.le_refl _) _⟩
end Go.Proofs.YtmnbapcbailcbaaGreat
