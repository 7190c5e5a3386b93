/- The statement FracTurns: factors change places; a fraction times what it is turned to is 1. -/
import Derived.Test.YtcklodmhlhjipabFrArg
namespace Go.Proofs.Ytcklodmhlhjipab
open Go.ChangeShapes Go.WideShapes Go.ChangeAt Go.RowKit

structure Box2 (w w1 : World) (a1 a2 b1 b2 : Value) : Prop where
  va : Var2 w1 w.heap.size a1 a2
  vb : Var2 w1 (w.heap.size + 1) b1 b2
  old : Below w.heap.size w w1
theorem box2_new (w : World) (a1 a2 b1 b2 : Value) (t : TypeId) : Box2 w ((w.alloc (.cells #[a1, a2] t)).alloc (.cells #[b1, b2] t)) a1 a2 b1 b2 :=
  ⟨(var2_new w _ _ _).alloc _, var2_at _ _ _ _ (by simp), ((Below.refl _ _).alloc (Nat.le_refl _) _).alloc (by simp) _⟩
theorem Box2.later {w w1 w2 : World} {a1 a2 b1 b2 : Value} (h : Box2 w w1 a1 a2 b1 b2) (hb : Below w1.heap.size w1 w2) : Box2 w w2 a1 a2 b1 b2 :=
  ⟨h.va.later hb h.va.lt, h.vb.later hb h.vb.lt, h.old.trans (hb.mono h.old.size)⟩
theorem Box2.alloc {w w1 : World} {a1 a2 b1 b2 : Value} (h : Box2 w w1 a1 a2 b1 b2) (o : Obj) : Box2 w (w1.alloc o) a1 a2 b1 b2 := h.later ((Below.refl _ _).alloc (Nat.le_refl _) _)

theorem mulO_two {a1 a2 b1 b2 : Int} (ha1 : -9223372036854775808 ≤ a1 ∧ a1 ≤ 9223372036854775807) (ha2 : -9223372036854775808 ≤ a2 ∧ a2 ≤ 9223372036854775807) (h1 : validB a1 a2 = true) :
    mulO 1 1 [(a1, a2), (b1, b2)] = if twoB a1 a2 b1 b2 then some (twoN a1 a2 b1 b2, twoD a1 a2 b1 b2) else none := by
  have e : twoB 1 1 a1 a2 = true := by unfold twoB; rw [(two_one h1).1, (two_one h1).2, fitB_yes ha1, fitB_yes ha2]; rfl
  rw [mulO]
  simp only [e, if_true, (two_one h1).1, (two_one h1).2, mulO]

/-- Two factors may change places. -/
theorem mul_turn {a1 a2 b1 b2 : Int} (ha1 : -9223372036854775808 ≤ a1 ∧ a1 ≤ 9223372036854775807) (ha2 : -9223372036854775808 ≤ a2 ∧ a2 ≤ 9223372036854775807) (hb1 : -9223372036854775808 ≤ b1 ∧ b1 ≤ 9223372036854775807) (hb2 : -9223372036854775808 ≤ b2 ∧ b2 ≤ 9223372036854775807) :
    mulN [(b1, b2), (a1, a2)] = mulN [(a1, a2), (b1, b2)] ∧ mulD [(b1, b2), (a1, a2)] = mulD [(a1, a2), (b1, b2)] ∧ mulE [(b1, b2), (a1, a2)] = mulE [(a1, a2), (b1, b2)] := by
  have hall : allB [(a1, a2), (b1, b2)] = allB [(b1, b2), (a1, a2)] := by
    show (validB a1 a2 && (validB b1 b2 && true)) = (validB b1 b2 && (validB a1 a2 && true))
    cases validB a1 a2 <;> cases validB b1 b2 <;> rfl
  cases h : allB [(a1, a2), (b1, b2)]
  · have h' := h; rw [hall] at h'
    unfold mulN mulD mulE
    rw [h, h']
    exact ⟨rfl, rfl, rfl⟩
  · have h' := h; rw [hall] at h'
    have hv : validB a1 a2 = true ∧ validB b1 b2 = true := by
      have : (validB a1 a2 && (validB b1 b2 && true)) = true := h
      simpa using this
    have hm : mulO 1 1 [(b1, b2), (a1, a2)] = mulO 1 1 [(a1, a2), (b1, b2)] := by
      rw [mulO_two ha1 ha2 hv.1, mulO_two hb1 hb2 hv.2]
      unfold twoB
      rw [(two_comm a1 a2 b1 b2).1, (two_comm a1 a2 b1 b2).2]
    unfold mulN mulD mulE
    rw [h, h', hm]
    exact ⟨rfl, rfl, rfl⟩

/-- What a fraction is turned to, where it is. -/
theorem inv_facts {a1 a2 : Int} (ha1 : -9223372036854775808 ≤ a1 ∧ a1 ≤ 9223372036854775807) (ha2 : -9223372036854775808 ≤ a2 ∧ a2 ≤ 9223372036854775807) (h : invE a1 a2 = 0) :
    ∃ i1 i2 : Int, invN a1 a2 = i1 ∧ invD a1 a2 = i2 ∧ (-9223372036854775808 ≤ i1 ∧ i1 ≤ 9223372036854775807) ∧ (-9223372036854775808 ≤ i2 ∧ i2 ≤ 9223372036854775807) ∧ validB a1 a2 = true ∧ validB i1 i2 = true ∧
      mulN [(a1, a2), (i1, i2)] = 1 ∧ mulD [(a1, a2), (i1, i2)] = 1 ∧ mulE [(a1, a2), (i1, i2)] = 0 ∧ invN i1 i2 = a1 ∧ invD i1 i2 = a2 ∧ invE i1 i2 = 0 ∧ (0 < a1 → i1 = a2 ∧ i2 = a1) := by
  cases hv : validB a1 a2
  · unfold invE at h; rw [hv] at h; exact absurd h (by simp)
  · have hE : newE a2 a1 = 0 := by unfold invE at h; rw [hv] at h; exact h
    have pos := valid_pos' hv
    by_cases a0 : a1 = 0
    · rw [a0, (new_zero a2).2.2] at hE; exact absurd hE (by decide)
    · cases hl : lowB a2 a1
      · rw [(new_no a0 hl).2.2] at hE; exact absurd hE (by decide)
      · have hny := new_yes a0 hl
        have hlv := low_valid (n := a2) a0
        have hfit : fitB (lowN a2 a1) = true ∧ fitB (lowD a2 a1) = true := by unfold lowB at hl; simpa using hl
        have ei : invN a1 a2 = lowN a2 a1 := by unfold invN; rw [hv]; exact hny.1
        have ej : invD a1 a2 = lowD a2 a1 := by unfold invD; rw [hv]; exact hny.2.1
        have hpos : 0 < a1 → lowN a2 a1 = a2 ∧ lowD a2 a1 = a1 := fun hp => by
          have hvi : validB a2 a1 = true := by rw [validB_true, gg_comm]; exact ⟨hp, (validB_true.1 hv).2⟩
          exact low_same hvi
        generalize lowN a2 a1 = i1 at *
        generalize lowD a2 a1 = i2 at *
        have f1 := fitB_true.1 hfit.1
        have f2 := fitB_true.1 hfit.2
        have pi := valid_pos' hlv.1
        have hcross : i1 * a1 = a2 * i2 := hlv.2
        have i0 : i1 ≠ 0 := fun e => by
          rw [e, Int.zero_mul] at hcross
          have := Int.mul_pos pos pi
          omega
        have h2 := two_valid hv hlv.1
        have hone : twoN a1 a2 i1 i2 = 1 ∧ twoD a1 a2 i1 i2 = 1 := by
          refine valid_same h2.1 (c := 1) (d := 1) (by decide) ?_
          have e := h2.2
          have hk : a1 * i1 = a2 * i2 := by rw [Int.mul_comm a1 i1]; exact hcross
          rw [hk, Int.mul_comm (a2 * i2)] at e
          have := Int.eq_of_mul_eq_mul_right (by have := Int.mul_pos pos pi; omega) e
          rw [this, Int.mul_one, Int.one_mul]
        have hm : mulO 1 1 [(a1, a2), (i1, i2)] = some (1, 1) := by
          rw [mulO_two ha1 ha2 hv]
          unfold twoB
          rw [hone.1, hone.2]
          rfl
        have hall : allB [(a1, a2), (i1, i2)] = true := by
          show (validB a1 a2 && (validB i1 i2 && true)) = true
          rw [hv, hlv.1]; rfl
        have hb := low_valid (n := i2) i0
        have hback : lowN i2 i1 = a1 ∧ lowD i2 i1 = a2 := by
          refine valid_same hb.1 hv ?_
          -- lowN * i1 = i2 * lowD and i1 * a1 = a2 * i2
          have e1 : lowN i2 i1 * i1 = i2 * lowD i2 i1 := hb.2
          have e2 : lowN i2 i1 * a2 * i2 = a1 * lowD i2 i1 * i2 := by
            rw [Int.mul_assoc, ← hcross, ← Int.mul_assoc, e1, Int.mul_comm a1, Int.mul_comm i2, Int.mul_right_comm]
          exact Int.eq_of_mul_eq_mul_right (by omega) e2
        have hlB : lowB i2 i1 = true := by unfold lowB; rw [hback.1, hback.2, fitB_yes ha1, fitB_yes ha2]; rfl
        have hny2 := new_yes i0 hlB
        refine ⟨i1, i2, ei, ej, f1, f2, rfl, hlv.1, ?_, ?_, ?_, ?_, ?_, ?_, hpos⟩
        · unfold mulN; rw [hall, hm]; rfl
        · unfold mulD; rw [hall, hm]; rfl
        · unfold mulE; rw [hall, hm]; rfl
        · unfold invN; rw [hlv.1]; exact hny2.1.trans hback.1
        · unfold invD; rw [hlv.1]; exact hny2.2.1.trans hback.2
        · unfold invE; rw [hlv.1]; exact hny2.2.2

set_option maxRecDepth 100000 in
set_option maxHeartbeats 2000000 in
/-- Where the first is not turned. -/
theorem turns_no (a1 a2 b1 b2 p1 p2 pe i1 i2 g : Int) (w : World) (hg : (g == 0) = false)
    (m1 : ∀ x W, AtP W x [(a1, a2), (b1, b2)] → Calls Try.prog 14 #[.slice x 2 2] W fun e w' => e = .returned (.tuple #[.agg #[.int .i64 p1, .int .i64 p2], .int .i64 pe]) ∧ Below W.heap.size W w')
    (m2 : ∀ x W, AtP W x [(b1, b2), (a1, a2)] → Calls Try.prog 14 #[.slice x 2 2] W fun e w' => e = .returned (.tuple #[.agg #[.int .i64 p1, .int .i64 p2], .int .i64 pe]) ∧ Below W.heap.size W w')
    (n1 : ∀ W, Calls Try.prog 17 #[.agg #[.int .i64 a1, .int .i64 a2]] W fun e w' => e = .returned (.tuple #[.agg #[.int .i64 i1, .int .i64 i2], .int .i64 g]) ∧ Below W.heap.size W w') :
    Calls Try.prog 5 #[.agg #[.int .i64 a1, .int .i64 a2], .agg #[.int .i64 b1, .int .i64 b2]] w fun e w' => e = .returned (.bool true) ∧ Below w.heap.size w w' := by
  have X0 := box2_new w (.int .i64 a1) (.int .i64 a2) (.int .i64 b1) (.int .i64 b2) 23
  have Y0 := X0.alloc (.cells #[.int .i64 a1, .int .i64 a2, .int .i64 b1, .int .i64 b2] 23)
  have q1 : (p1 != p1) = false := by simp
  have q2 : (p2 != p2) = false := by simp
  have q3 : (pe != pe) = false := by simp
  have q4 : (p1 == p1) = true := by simp
  have q5 : (p2 == p2) = true := by simp
  go_enter Try.func5, Try.ntmps5
  go_wp2_with (first
    | (go_at_call 14; (with_reducible refine (m1 _ _ (atP2 (t := 23) ?_)).mono ?_); (simp); rintro e w1 ⟨rfl, hb1⟩; have X1 := (Y0.later hb1).alloc (.cells #[.int .i64 p1, .int .i64 p2] 23); have P1 := var2_new w1 (.int .i64 p1) (.int .i64 p2) 23; have c0 := X1.va.c0; have c1 := X1.va.c1; have c2 := X1.vb.c0; have c3 := X1.vb.c1; have Y1 := X1.alloc (.cells #[.int .i64 b1, .int .i64 b2, .int .i64 a1, .int .i64 a2] 23); have P1' := P1.alloc (.cells #[.int .i64 b1, .int .i64 b2, .int .i64 a1, .int .i64 a2] 23))
    | (go_at_call 14; (with_reducible refine (m2 _ _ (atP2 (t := 23) ?_)).mono ?_); (simp); rintro e w2 ⟨rfl, hb2⟩; have X2 := (Y1.later hb2).alloc (.cells #[.int .i64 p1, .int .i64 p2] 23); have P2 := (P1'.later hb2 P1'.lt).alloc (.cells #[.int .i64 p1, .int .i64 p2] 23); have Q2 := var2_new w2 (.int .i64 p1) (.int .i64 p2) 23; have d0 := P2.c0; have d1 := P2.c1; have e0 := Q2.c0; have e1 := Q2.c1; have f0 := X2.va.c0; have f1 := X2.va.c1)
    | (go_at_call 17; refine (n1 _).mono ?_; rintro e w3 ⟨rfl, hb3⟩; have X3 := (X2.later hb3).alloc (.cells #[.int .i64 i1, .int .i64 i2] 23))
    | (go_at_call 10; refine (awake2 _).mono ?_; rintro e w4 ⟨rfl, hb4⟩))
  go_ret
  exact ⟨rfl, X3.old.trans (hb4.mono X3.old.size)⟩
end Go.Proofs.Ytcklodmhlhjipab
