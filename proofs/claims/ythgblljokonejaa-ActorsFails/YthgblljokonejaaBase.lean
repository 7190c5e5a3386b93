/- What the program's own Add, Sub, Mul, absolute and common answer, each whatever it is handed. -/
import Derived.Test.YthgblljokonejaaRows
import Derived.Test.YthgblljokonejaaNum
import Derived.WalkKit
import Derived.ProofKit
import Derived.OpenShut
import Derived.BigQuiet
import Derived.Outline
namespace Go.Proofs.Ythgblljokonejaa
open Go.ChangeShapes Go.WideShapes Go.ChangeAt Go.RowKit

theorem ret_two {a b : Int} {c d : Bool} (h : a = b) (k : c = d) : Ending.returned (.tuple #[.int .i64 a, .bool c]) = .returned (.tuple #[.int .i64 b, .bool d]) := by rw [h, k]
theorem ret_one {a b : Int} (h : a = b) : Ending.returned (.int .i64 a) = .returned (.int .i64 b) := by rw [h]

theorem rem_facts (x y : Int) (hy : y ≠ 0) (hx1 : -9223372036854775808 ≤ x) (hx2 : x ≤ 9223372036854775807) :
    wrap64 (x.tmod y) = x.tmod y ∧ (-9223372036854775808 ≤ x.tmod y ∧ x.tmod y ≤ 9223372036854775807) ∧ (x.tmod y).natAbs < y.natAbs ∧ Nat.gcd y.natAbs (x.tmod y).natAbs = Nat.gcd x.natAbs y.natAbs ∧ (0 ≤ x → 0 ≤ x.tmod y) := by
  have h1 : (x.tmod y).natAbs = x.natAbs % y.natAbs := Int.natAbs_tmod x y
  have h2 : x.natAbs % y.natAbs < y.natAbs := Nat.mod_lt _ (by omega)
  have h3 : x.natAbs % y.natAbs ≤ x.natAbs := Nat.mod_le _ _
  have h4 : 0 ≤ x → 0 ≤ x.tmod y := fun h => Int.tmod_nonneg y h
  have h5 : x < 0 → x.tmod y ≤ 0 := fun h => by
    have := Int.tmod_nonneg y (a := -x) (by omega)
    rw [Int.neg_tmod] at this
    omega
  refine ⟨?_, ?_, by omega, ?_, h4⟩
  · unfold wrap64; omega
  · omega
  · rw [h1, Nat.gcd_comm, ← Nat.gcd_rec, Nat.gcd_comm]

theorem add_any (a b : Int) (w : World) (ha : -9223372036854775808 ≤ a ∧ a ≤ 9223372036854775807) (hb : -9223372036854775808 ≤ b ∧ b ≤ 9223372036854775807) :
    Calls Try.prog 138 #[.int .i64 a, .int .i64 b] w fun e w' => e = .returned (.tuple #[.int .i64 (fitV (a + b)), .bool (fitB (a + b))]) ∧ w = w' := by
  obtain ⟨ha1, ha2⟩ := ha
  obtain ⟨hb1, hb2⟩ := hb
  by_cases h : -9223372036854775808 ≤ a + b ∧ a + b ≤ 9223372036854775807
  · rw [fitV_yes h, fitB_yes h]
    obtain ⟨h1, h2⟩ := h
    by_cases h0 : 0 < b
    · have h3 : ¬ 9223372036854775807 - b < a := by omega
      have h4 : ¬ b < 0 := by omega
      go_enter Try.func138, Try.ntmps138
      go_wp2
      go_ret2
      exact ⟨rfl, rfl⟩
    · by_cases h4 : b < 0
      · have h5 : ¬ a < -9223372036854775808 - b := by omega
        go_enter Try.func138, Try.ntmps138
        go_wp2
        go_ret2
        exact ⟨rfl, rfl⟩
      · go_enter Try.func138, Try.ntmps138
        go_wp2
        go_ret2
        exact ⟨rfl, rfl⟩
  · rw [fitV_no h, fitB_no h]
    by_cases h0 : 0 < b
    · have h3 : 9223372036854775807 - b < a := by omega
      clear h
      go_enter Try.func138, Try.ntmps138
      go_wp2
      go_ret2
      exact ⟨rfl, rfl⟩
    · have h4 : b < 0 := by omega
      have h5 : a < -9223372036854775808 - b := by omega
      clear h
      go_enter Try.func138, Try.ntmps138
      go_wp2
      go_ret2
      exact ⟨rfl, rfl⟩

theorem sub_any (a b : Int) (w : World) (ha : -9223372036854775808 ≤ a ∧ a ≤ 9223372036854775807) (hb : -9223372036854775808 ≤ b ∧ b ≤ 9223372036854775807) :
    Calls Try.prog 139 #[.int .i64 a, .int .i64 b] w fun e w' => e = .returned (.tuple #[.int .i64 (fitV (a - b)), .bool (fitB (a - b))]) ∧ w = w' := by
  obtain ⟨ha1, ha2⟩ := ha
  obtain ⟨hb1, hb2⟩ := hb
  by_cases h : -9223372036854775808 ≤ a - b ∧ a - b ≤ 9223372036854775807
  · rw [fitV_yes h, fitB_yes h]
    obtain ⟨h1, h2⟩ := h
    by_cases h0 : 0 < b
    · have h3 : ¬ a < -9223372036854775808 + b := by omega
      have h4 : ¬ b < 0 := by omega
      go_enter Try.func139, Try.ntmps139
      go_wp2
      go_ret2
      exact ⟨rfl, rfl⟩
    · by_cases h4 : b < 0
      · have h5 : ¬ 9223372036854775807 + b < a := by omega
        go_enter Try.func139, Try.ntmps139
        go_wp2
        go_ret2
        exact ⟨rfl, rfl⟩
      · go_enter Try.func139, Try.ntmps139
        go_wp2
        go_ret2
        exact ⟨rfl, rfl⟩
  · rw [fitV_no h, fitB_no h]
    by_cases h0 : 0 < b
    · have h3 : a < -9223372036854775808 + b := by omega
      clear h
      go_enter Try.func139, Try.ntmps139
      go_wp2
      go_ret2
      exact ⟨rfl, rfl⟩
    · have h4 : b < 0 := by omega
      have h5 : 9223372036854775807 + b < a := by omega
      clear h
      go_enter Try.func139, Try.ntmps139
      go_wp2
      go_ret2
      exact ⟨rfl, rfl⟩

theorem mul_any (a b : Int) (w : World) (ha : -9223372036854775808 ≤ a ∧ a ≤ 9223372036854775807) (hb : -9223372036854775808 ≤ b ∧ b ≤ 9223372036854775807) :
    Calls Try.prog 137 #[.int .i64 a, .int .i64 b] w fun e w' => e = .returned (.tuple #[.int .i64 (fitV (a * b)), .bool (fitB (a * b))]) ∧ w = w' := by
  by_cases h0 : b = 0
  · subst h0
    have hv : fitV (a * 0) = 0 := by rw [Int.mul_zero]; decide
    have ht : fitB (a * 0) = true := by rw [Int.mul_zero]; decide
    rw [hv, ht]
    go_enter Try.func137, Try.ntmps137
    go_wp2
    go_ret2
    exact ⟨rfl, rfl⟩
  · by_cases h1 : b = -1
    · subst h1
      have e : a * -1 = -a := by omega
      rw [e]
      go_enter Try.func137, Try.ntmps137
      go_wp2_with (go_at_call 139; refine (sub_any _ _ _ (by decide) ha).mono ?_; rintro e w' ⟨rfl, rfl⟩)
      go_ret2
      exact ⟨rfl, rfl⟩
    · have hb0 : (b == 0) = false := by simpa using h0
      have hb1 : (b == -1) = false := by simpa using h1
      by_cases h : -9223372036854775808 ≤ a * b ∧ a * b ≤ 9223372036854775807
      · rw [fitV_yes h, fitB_yes h]
        have hk := back_yes h0 ha h
        go_enter Try.func137, Try.ntmps137
        go_wp2
        go_ret2
        exact ⟨rfl, rfl⟩
      · rw [fitV_no h, fitB_no h]
        have hk : (wrap64 ((wrap64 (a * b)).tdiv b) != a) = true := by simpa using back_no h0 hb h h1 ha
        clear h
        go_enter Try.func137, Try.ntmps137
        go_wp2
        go_ret2
        exact ⟨rfl, rfl⟩

end Go.Proofs.Ythgblljokonejaa
