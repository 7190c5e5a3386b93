/- The document's answer: what bytes are; names. -/
import Derived.Test.YtpmooflijlkppaaDoorL7
namespace Go.Proofs.YtpmooflijlkppaaDoor
open Go.ChangeShapes Go.WideShapes Go.ChangeAt Go.RowKit

theorem rletter_any (b : Int) (w : World) : Calls Tryd.prog 42 #[.int .u8 b] w fun e w' => e = .returned (.bool (letB b)) ∧ w = w' := by
  by_cases h1 : (97 : Int) ≤ b <;> by_cases h2 : b ≤ 122 <;>
  · have e : letB b = (decide (97 ≤ b) && decide (b ≤ 122)) := rfl
    simp only [h1, h2, decide_true, decide_false, Bool.and_true, Bool.and_false] at e
    rw [e]
    go_enter Tryd.func42, Tryd.ntmps42
    go_wp2
    go_ret
    exact ⟨rfl, rfl⟩
theorem rdigit_any (b : Int) (w : World) : Calls Tryd.prog 44 #[.int .u8 b] w fun e w' => e = .returned (.bool (digB b)) ∧ w = w' := by
  by_cases h1 : (48 : Int) ≤ b <;> by_cases h2 : b ≤ 57 <;>
  · have e : digB b = (decide (48 ≤ b) && decide (b ≤ 57)) := rfl
    simp only [h1, h2, decide_true, decide_false, Bool.and_true, Bool.and_false] at e
    rw [e]
    go_enter Tryd.func44, Tryd.ntmps44
    go_wp2
    go_ret
    exact ⟨rfl, rfl⟩
theorem rinside_any (b : Int) (w : World) : Calls Tryd.prog 43 #[.int .u8 b] w fun e w' => e = .returned (.bool (wordB b)) ∧ w = w' := by
  have e : wordB b = (letB b || digB b || decide (b = 95)) := rfl
  rw [e]
  clear e
  have h1 := hidden (rletter_any b)
  have h2 := hidden (rdigit_any b)
  generalize letB b = x at *
  generalize digB b = y at *
  cases x <;> cases y
  · by_cases h3 : b = 95
    · subst h3
      go_enter Tryd.func43, Tryd.ntmps43
      go_wp2_with (first
        | (go_at_call 44; (with_reducible refine (h2.out _).mono ?_); rintro e w' ⟨rfl, rfl⟩)
        | (go_at_call 42; (with_reducible refine (h1.out _).mono ?_); rintro e w' ⟨rfl, rfl⟩))
      go_ret
      exact ⟨rfl, rfl⟩
    · have d3 : decide (b = 95) = false := decide_eq_false h3
      go_enter Tryd.func43, Tryd.ntmps43
      go_wp2_with (first
        | (go_at_call 44; (with_reducible refine (h2.out _).mono ?_); rintro e w' ⟨rfl, rfl⟩)
        | (go_at_call 42; (with_reducible refine (h1.out _).mono ?_); rintro e w' ⟨rfl, rfl⟩))
      go_ret
      exact ⟨by simp [h3], rfl⟩
  all_goals
    go_enter Tryd.func43, Tryd.ntmps43
    go_wp2_with (first
      | (go_at_call 44; (with_reducible refine (h2.out _).mono ?_); rintro e w' ⟨rfl, rfl⟩)
      | (go_at_call 42; (with_reducible refine (h1.out _).mono ?_); rintro e w' ⟨rfl, rfl⟩))
    go_ret
    exact ⟨rfl, rfl⟩

theorem row_next {p : Int → Bool} {l : List UInt8} {i : Nat} (h : i ≤ rowN p l) (hi : i < l.length) (hp : p (by8 l i) = true) : i + 1 ≤ rowN p l := by
  rcases Nat.lt_or_ge i (rowN p l) with h1 | h1
  · exact h1
  · have e : rowN p l = i := by omega
    have := rowN_out p l (by omega)
    rw [e, hp] at this
    cases this
end Go.Proofs.YtpmooflijlkppaaDoor
