/- The statement FracTurns, whole. -/
import Derived.Test.YtcklodmhlhjipabFTurnsB
namespace Go.Proofs.Ytcklodmhlhjipab
open Go.ChangeShapes Go.WideShapes Go.ChangeAt Go.RowKit

theorem cmp_turned {a1 a2 b1 b2 : Int} (h1 : validB a1 a2 = true) (h2 : validB b1 b2 = true) (h3 : validB a2 a1 = true) (h4 : validB b2 b1 = true) :
    cmpV b2 b1 a2 a1 = cmpV a1 a2 b1 b2 ∧ cmpE b2 b1 a2 a1 = 0 ∧ cmpE a1 a2 b1 b2 = 0 := by
  refine ⟨?_, by unfold cmpE; rw [h3, h4]; rfl, by unfold cmpE; rw [h1, h2]; rfl⟩
  unfold cmpV
  rw [h1, h2, h3, h4, Int.mul_comm b2, Int.mul_comm a2]

theorem turns_any (a1 a2 b1 b2 : Int) (w : World) (ha1 : -9223372036854775808 ≤ a1 ∧ a1 ≤ 9223372036854775807) (ha2 : -9223372036854775808 ≤ a2 ∧ a2 ≤ 9223372036854775807) (hb1 : -9223372036854775808 ≤ b1 ∧ b1 ≤ 9223372036854775807) (hb2 : -9223372036854775808 ≤ b2 ∧ b2 ≤ 9223372036854775807) :
    Calls Try.prog 5 #[.agg #[.int .i64 a1, .int .i64 a2], .agg #[.int .i64 b1, .int .i64 b2]] w fun e w' => e = .returned (.bool true) ∧ Below w.heap.size w w' := by
  have m1 : ∀ x W, AtP W x [(a1, a2), (b1, b2)] → Calls Try.prog 14 #[.slice x 2 2] W fun e w' => e = .returned (.tuple #[.agg #[.int .i64 (mulN [(a1, a2), (b1, b2)]), .int .i64 (mulD [(a1, a2), (b1, b2)])], .int .i64 (mulE [(a1, a2), (b1, b2)])]) ∧ Below W.heap.size W w' :=
    fun x W h => mul_frac x _ 2 2 W rfl (by decide) (inRP2 ha1 ha2 hb1 hb2) h
  have m2 : ∀ x W, AtP W x [(b1, b2), (a1, a2)] → Calls Try.prog 14 #[.slice x 2 2] W fun e w' => e = .returned (.tuple #[.agg #[.int .i64 (mulN [(b1, b2), (a1, a2)]), .int .i64 (mulD [(b1, b2), (a1, a2)])], .int .i64 (mulE [(b1, b2), (a1, a2)])]) ∧ Below W.heap.size W w' :=
    fun x W h => mul_frac x _ 2 2 W rfl (by decide) (inRP2 hb1 hb2 ha1 ha2) h
  obtain ⟨t1, t2, t3⟩ := mul_turn ha1 ha2 hb1 hb2
  rw [t1, t2, t3] at m2
  have n1 : ∀ W, Calls Try.prog 17 #[.agg #[.int .i64 a1, .int .i64 a2]] W fun e w' => e = .returned (.tuple #[.agg #[.int .i64 (invN a1 a2), .int .i64 (invD a1 a2)], .int .i64 (invE a1 a2)]) ∧ Below W.heap.size W w' := fun W => inv_frac a1 a2 W ha1 ha2
  have n3 : ∀ W, Calls Try.prog 17 #[.agg #[.int .i64 b1, .int .i64 b2]] W fun e w' => e = .returned (.tuple #[.agg #[.int .i64 (invN b1 b2), .int .i64 (invD b1 b2)], .int .i64 (invE b1 b2)]) ∧ Below W.heap.size W w' := fun W => inv_frac b1 b2 W hb1 hb2
  by_cases hg : invE a1 a2 = 0
  · obtain ⟨i1, i2, ei, ej, fi, fj, hva, hvi, e1, e2, e3, e4, e5, e6, e7⟩ := inv_facts ha1 ha2 hg
    rw [ei, ej, hg] at n1
    have m3 : ∀ x W, AtP W x [(a1, a2), (i1, i2)] → Calls Try.prog 14 #[.slice x 2 2] W fun e w' => e = .returned (.tuple #[.agg #[.int .i64 (mulN [(a1, a2), (i1, i2)]), .int .i64 (mulD [(a1, a2), (i1, i2)])], .int .i64 (mulE [(a1, a2), (i1, i2)])]) ∧ Below W.heap.size W w' :=
      fun x W h => mul_frac x _ 2 2 W rfl (by decide) (inRP2 ha1 ha2 fi fj) h
    rw [e1, e2, e3] at m3
    have n2 : ∀ W, Calls Try.prog 17 #[.agg #[.int .i64 i1, .int .i64 i2]] W fun e w' => e = .returned (.tuple #[.agg #[.int .i64 (invN i1 i2), .int .i64 (invD i1 i2)], .int .i64 (invE i1 i2)]) ∧ Below W.heap.size W w' := fun W => inv_frac i1 i2 W fi fj
    rw [e4, e5, e6] at n2
    by_cases hl : invE b1 b2 = 0
    · obtain ⟨j1, j2, ej1, ej2, fj1, fj2, hvb, hvj, -, -, -, -, -, -, e8⟩ := inv_facts hb1 hb2 hl
      rw [ej1, ej2, hl] at n3
      by_cases h0 : 0 < a1
      · by_cases h1 : 0 < b1
        · obtain ⟨rfl, rfl⟩ := e7 h0
          obtain ⟨rfl, rfl⟩ := e8 h1
          obtain ⟨c1, c2, c3⟩ := cmp_turned hva hvb hvi hvj
          have k1 := fun W => cmp_frac i2 i1 j2 j1 W ha1 ha2 hb1 hb2
          have k2 := fun W => cmp_frac j1 j2 i1 i2 W fj1 fj2 fi fj
          rw [c3] at k1
          rw [c1, c2] at k2
          exact turns_d _ _ _ _ _ _ _ _ _ _ _ _ w (decide_eq_true h0) (decide_eq_true h1) m1 m2 n1 m3 n2 n3 k1 k2
        · exact turns_c _ _ _ _ _ _ _ _ _ _ _ w (decide_eq_true h0) (decide_eq_false h1) m1 m2 n1 m3 n2 n3
      · exact turns_b _ _ _ _ _ _ _ _ _ _ _ w (decide_eq_false h0) m1 m2 n1 m3 n2 n3
    · exact turns_a _ _ _ _ _ _ _ _ _ _ _ _ w (by simpa using hl) m1 m2 n1 m3 n2 n3
  · exact turns_no _ _ _ _ _ _ _ _ _ _ w (by simpa using hg) m1 m2 n1
end Go.Proofs.Ytcklodmhlhjipab
