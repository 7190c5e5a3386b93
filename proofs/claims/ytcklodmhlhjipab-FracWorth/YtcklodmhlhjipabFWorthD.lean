/- The statement FracWorth, whole. -/
import Derived.Test.YtcklodmhlhjipabFWorthA
import Derived.Test.YtcklodmhlhjipabFWorthB
import Derived.Test.YtcklodmhlhjipabFWorthC
namespace Go.Proofs.Ytcklodmhlhjipab
open Go.ChangeShapes Go.WideShapes Go.ChangeAt Go.RowKit

theorem new_ok {n d : Int} (h : newE n d = 0) : d ≠ 0 ∧ newN n d = lowN n d ∧ newD n d = lowD n d := by
  by_cases d0 : d = 0
  · rw [d0, (new_zero n).2.2] at h; exact absurd h (by decide)
  · cases hl : lowB n d
    · rw [(new_no d0 hl).2.2] at h; exact absurd h (by decide)
    · exact ⟨d0, (new_yes d0 hl).1, (new_yes d0 hl).2.1⟩

/-- One form just if they are worth the same. -/
theorem same_form {a b c d : Int} (hb : b ≠ 0) (hd : d ≠ 0) : (lowN a b = lowN c d ∧ lowD a b = lowD c d) ↔ a * d = c * b := by
  have h1 := low_valid (n := a) hb
  have h2 := low_valid (n := c) hd
  have p1 := valid_pos' h1.1
  have p2 := valid_pos' h2.1
  constructor
  · rintro ⟨e1, e2⟩
    have k1 := h1.2
    have k2 := h2.2
    rw [← e1, ← e2] at k2
    generalize lowN a b = x at *
    generalize lowD a b = y at *
    -- x b = a y, x d = c y
    have : a * d * y = c * b * y := by
      rw [Int.mul_right_comm a d y, ← k1, Int.mul_right_comm c b y, ← k2, Int.mul_right_comm x b d]
    exact Int.eq_of_mul_eq_mul_right (by omega) this
  · intro h
    refine valid_same h1.1 h2.1 ?_
    have k1 := h1.2
    have k2 := h2.2
    generalize lowN a b = x at *
    generalize lowD a b = y at *
    generalize lowN c d = u at *
    generalize lowD c d = v at *
    -- x b = a y, u d = c v, a d = c b: x v = u y
    have e : x * v * (b * d) = u * y * (b * d) := by
      have l1 : x * v * (b * d) = (x * b) * (v * d) := by simp only [Int.mul_comm, Int.mul_left_comm]
      have l2 : u * y * (b * d) = (u * d) * (y * b) := by simp only [Int.mul_comm, Int.mul_left_comm]
      rw [l1, l2, k1, k2]
      have l3 : a * y * (v * d) = (a * d) * (y * v) := by simp only [Int.mul_comm, Int.mul_left_comm]
      have l4 : c * v * (y * b) = (c * b) * (y * v) := by simp only [Int.mul_comm, Int.mul_left_comm]
      rw [l3, l4, h]
    exact Int.eq_of_mul_eq_mul_right (fun z => (Int.mul_eq_zero.1 z).elim hb hd) e

theorem pair_beq (x y u v : Int) : ((x == u) = true ∧ (y == v) = true ∧ x = u ∧ y = v) ∨ ((x == u) = false ∧ ¬ (x = u ∧ y = v)) ∨ ((x == u) = true ∧ (y == v) = false ∧ ¬ (x = u ∧ y = v)) := by
  by_cases h1 : x = u
  · by_cases h2 : y = v
    · exact .inl ⟨by simpa using h1, by simpa using h2, h1, h2⟩
    · exact .inr (.inr ⟨by simpa using h1, by simpa using h2, fun h => h2 h.2⟩)
  · exact .inr (.inl ⟨by simpa using h1, fun h => h1 h.1⟩)

theorem worth_any (a b c : Int) (w : World) (ha : -9223372036854775808 ≤ a ∧ a ≤ 9223372036854775807) (hb : -9223372036854775808 ≤ b ∧ b ≤ 9223372036854775807) (hc : -9223372036854775808 ≤ c ∧ c ≤ 9223372036854775807) :
    Calls Try.prog 3 #[.int .i64 a, .int .i64 b, .int .i64 c] w fun e w' => e = .returned (.bool true) ∧ Below w.heap.size w w' := by
  have n1 : ∀ W, Calls Try.prog 9 #[.int .i64 a, .int .i64 b] W fun e w' => e = .returned (.tuple #[.agg #[.int .i64 (newN a b), .int .i64 (newD a b)], .int .i64 (newE a b)]) ∧ Below W.heap.size W w' := fun W => new_any a b W ha hb
  have n2 : ∀ W, Calls Try.prog 9 #[.int .i64 c, .int .i64 b] W fun e w' => e = .returned (.tuple #[.agg #[.int .i64 (newN c b), .int .i64 (newD c b)], .int .i64 (newE c b)]) ∧ Below W.heap.size W w' := fun W => new_any c b W hc hb
  have n3 : ∀ W, Calls Try.prog 9 #[.int .i64 a, .int .i64 c] W fun e w' => e = .returned (.tuple #[.agg #[.int .i64 (newN a c), .int .i64 (newD a c)], .int .i64 (newE a c)]) ∧ Below W.heap.size W w' := fun W => new_any a c W ha hc
  by_cases he : newE a b = 0
  · by_cases hh : newE c b = 0
    · by_cases hj : newE a c = 0
      · obtain ⟨b0, e1, e2⟩ := new_ok he
        obtain ⟨-, e3, e4⟩ := new_ok hh
        obtain ⟨c0, e5, e6⟩ := new_ok hj
        rw [he] at n1
        rw [hh] at n2
        rw [hj] at n3
        have s1 : (newN a b = newN c b ∧ newD a b = newD c b) ↔ a = c := by
          rw [e1, e2, e3, e4, same_form b0 b0]
          exact ⟨fun h => Int.eq_of_mul_eq_mul_right b0 h, fun h => by rw [h]⟩
        have s2 : (newN a b = newN a c ∧ newD a b = newD a c) ↔ a * c = b * a := by
          rw [e1, e2, e5, e6, same_form b0 c0, Int.mul_comm b a]
        have Oa : Hid (∀ W, Calls Try.prog 12 #[.int .i64 a] W (MadeWh W a 3)) := fun W => of_any a W ha
        have Ob : Hid (∀ W, Calls Try.prog 12 #[.int .i64 b] W (MadeWh W b 3)) := fun W => of_any b W hb
        have Oc : Hid (∀ W, Calls Try.prog 12 #[.int .i64 c] W (MadeWh W c 3)) := fun W => of_any c W hc
        have k1 : a * c = b * a → (cmpI (a * c) (b * a) == 0) = true := fun h => by rw [cmpI_eq h]; rfl
        have k2 : ¬ a * c = b * a → (cmpI (a * c) (b * a) == 0) = false := fun h => by
          rcases Int.lt_trichotomy (a * c) (b * a) with k | k | k
          · rw [cmpI_lt k]; rfl
          · exact absurd k h
          · rw [cmpI_gt k]; rfl
        have f1 : a = c → (a == c) = true := fun h => by simpa using h
        have f2 : ¬ a = c → (a == c) = false := fun h => by simpa using h
        rcases pair_beq (newN a b) (newD a b) (newN c b) (newD c b) with ⟨x1, x2, x3⟩ | ⟨x1, x3⟩ | ⟨x1, x2, x3⟩ <;>
          rcases pair_beq (newN a b) (newD a b) (newN a c) (newD a c) with ⟨y1, y2, y3⟩ | ⟨y1, y3⟩ | ⟨y1, y2, y3⟩
        · exact worth_tt_tt _ _ _ _ _ _ _ _ _ _ w x1 x2 (f1 (s1.1 x3)) y1 y2 (k1 (s2.1 y3)) n1 n2 n3 Oa Ob Oc rfl
        · exact worth_tt_f _ _ _ _ _ _ _ _ _ _ w x1 x2 (f1 (s1.1 x3)) y1 (k2 (fun h => y3 (s2.2 h))) n1 n2 n3 Oa Ob Oc rfl
        · exact worth_tt_tf _ _ _ _ _ _ _ _ _ _ w x1 x2 (f1 (s1.1 x3)) y1 y2 (k2 (fun h => y3 (s2.2 h))) n1 n2 n3 Oa Ob Oc rfl
        · exact worth_f_tt _ _ _ _ _ _ _ _ _ _ w x1 (f2 (fun h => x3 (s1.2 h))) y1 y2 (k1 (s2.1 y3)) n1 n2 n3 Oa Ob Oc rfl
        · exact worth_f_f _ _ _ _ _ _ _ _ _ _ w x1 (f2 (fun h => x3 (s1.2 h))) y1 (k2 (fun h => y3 (s2.2 h))) n1 n2 n3 Oa Ob Oc rfl
        · exact worth_f_tf _ _ _ _ _ _ _ _ _ _ w x1 (f2 (fun h => x3 (s1.2 h))) y1 y2 (k2 (fun h => y3 (s2.2 h))) n1 n2 n3 Oa Ob Oc rfl
        · exact worth_tf_tt _ _ _ _ _ _ _ _ _ _ w x1 x2 (f2 (fun h => x3 (s1.2 h))) y1 y2 (k1 (s2.1 y3)) n1 n2 n3 Oa Ob Oc rfl
        · exact worth_tf_f _ _ _ _ _ _ _ _ _ _ w x1 x2 (f2 (fun h => x3 (s1.2 h))) y1 (k2 (fun h => y3 (s2.2 h))) n1 n2 n3 Oa Ob Oc rfl
        · exact worth_tf_tf _ _ _ _ _ _ _ _ _ _ w x1 x2 (f2 (fun h => x3 (s1.2 h))) y1 y2 (k2 (fun h => y3 (s2.2 h))) n1 n2 n3 Oa Ob Oc rfl
      · rw [he] at n1
        rw [hh] at n2
        exact worth_3 _ _ _ _ _ _ _ _ _ _ w (by simpa using hj) n1 n2 n3
    · rw [he] at n1
      exact worth_2 _ _ _ _ _ _ _ _ _ _ _ w (by simpa using hh) n1 n2 n3
  · exact worth_1 _ _ _ _ _ _ _ _ _ _ _ _ w (by simpa using he) n1 n2 n3
end Go.Proofs.Ytcklodmhlhjipab
