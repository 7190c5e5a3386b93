/- What the program's own Add, Sub, Mul, absolute and common answer, each whatever it is handed. -/
import Derived.Test.YtgjeihdibcjjcabRows
import Derived.Test.YtgjeihdibcjjcabNum
import Derived.WalkKit
import Derived.ProofKit
import Derived.OpenShut
import Derived.BigQuiet
import Derived.Outline
namespace Go.Proofs.Ytgjeihdibcjjcab
open Go.ChangeShapes Go.WideShapes Go.ChangeAt Go.RowKit

theorem ret_two {a b : Int} {c d : Bool} (h : a = b) (k : c = d) : Ending.returned (.tuple #[.int .i64 a, .bool c]) = .returned (.tuple #[.int .i64 b, .bool d]) := by rw [h, k]
theorem ret_one {a b : Int} (h : a = b) : Ending.returned (.int .i64 a) = .returned (.int .i64 b) := by rw [h]

theorem rem_facts (x y : Int) (hy : y ≠ 0) (hx1 : -9223372036854775808 ≤ x) (hx2 : x ≤ 9223372036854775807) :
    wrap64 (x.tmod y) = x.tmod y ∧ (-9223372036854775808 ≤ x.tmod y ∧ x.tmod y ≤ 9223372036854775807) ∧ (x.tmod y).natAbs < y.natAbs ∧ Nat.gcd y.natAbs (x.tmod y).natAbs = Nat.gcd x.natAbs y.natAbs ∧ (0 ≤ x → 0 ≤ x.tmod y) := by
  have h1 : (x.tmod y).natAbs = x.natAbs % y.natAbs := Int.natAbs_tmod x y
  have h2 : x.natAbs % y.natAbs < y.natAbs := Nat.mod_lt _ (by omega)
  have h3 : x.natAbs % y.natAbs ≤ x.natAbs := Nat.mod_le _ _
  have h4 : 0 ≤ x → 0 ≤ x.tmod y := fun h => Int.tmod_nonneg y h
  have h5 : x < 0 → x.tmod y ≤ 0 := fun h => by
    have := Int.tmod_nonneg y (a := -x) (by omega)
    rw [Int.neg_tmod] at this
    omega
  refine ⟨?_, ?_, by omega, ?_, h4⟩
  · unfold wrap64; omega
  · omega
  · rw [h1, Nat.gcd_comm, ← Nat.gcd_rec, Nat.gcd_comm]

theorem sub_any (a b : Int) (w : World) (ha : -9223372036854775808 ≤ a ∧ a ≤ 9223372036854775807) (hb : -9223372036854775808 ≤ b ∧ b ≤ 9223372036854775807) :
    Calls Try.prog 60 #[.int .i64 a, .int .i64 b] w fun e w' => e = .returned (.tuple #[.int .i64 (fitV (a - b)), .bool (fitB (a - b))]) ∧ w = w' := by
  obtain ⟨ha1, ha2⟩ := ha
  obtain ⟨hb1, hb2⟩ := hb
  by_cases h : -9223372036854775808 ≤ a - b ∧ a - b ≤ 9223372036854775807
  · rw [fitV_yes h, fitB_yes h]
    obtain ⟨h1, h2⟩ := h
    by_cases h0 : 0 < b
    · have h3 : ¬ a < -9223372036854775808 + b := by omega
      have h4 : ¬ b < 0 := by omega
      go_enter Try.func60, Try.ntmps60
      go_wp2
      go_ret2
      exact ⟨rfl, rfl⟩
    · by_cases h4 : b < 0
      · have h5 : ¬ 9223372036854775807 + b < a := by omega
        go_enter Try.func60, Try.ntmps60
        go_wp2
        go_ret2
        exact ⟨rfl, rfl⟩
      · go_enter Try.func60, Try.ntmps60
        go_wp2
        go_ret2
        exact ⟨rfl, rfl⟩
  · rw [fitV_no h, fitB_no h]
    by_cases h0 : 0 < b
    · have h3 : a < -9223372036854775808 + b := by omega
      clear h
      go_enter Try.func60, Try.ntmps60
      go_wp2
      go_ret2
      exact ⟨rfl, rfl⟩
    · have h4 : b < 0 := by omega
      have h5 : 9223372036854775807 + b < a := by omega
      clear h
      go_enter Try.func60, Try.ntmps60
      go_wp2
      go_ret2
      exact ⟨rfl, rfl⟩

theorem mul_any (a b : Int) (w : World) (ha : -9223372036854775808 ≤ a ∧ a ≤ 9223372036854775807) (hb : -9223372036854775808 ≤ b ∧ b ≤ 9223372036854775807) :
    Calls Try.prog 46 #[.int .i64 a, .int .i64 b] w fun e w' => e = .returned (.tuple #[.int .i64 (fitV (a * b)), .bool (fitB (a * b))]) ∧ w = w' := by
  by_cases h0 : b = 0
  · subst h0
    have hv : fitV (a * 0) = 0 := by rw [Int.mul_zero]; decide
    have ht : fitB (a * 0) = true := by rw [Int.mul_zero]; decide
    rw [hv, ht]
    go_enter Try.func46, Try.ntmps46
    go_wp2
    go_ret2
    exact ⟨rfl, rfl⟩
  · by_cases h1 : b = -1
    · subst h1
      have e : a * -1 = -a := by omega
      rw [e]
      go_enter Try.func46, Try.ntmps46
      go_wp2_with (go_at_call 60; refine (sub_any _ _ _ (by decide) ha).mono ?_; rintro e w' ⟨rfl, rfl⟩)
      go_ret2
      exact ⟨rfl, rfl⟩
    · have hb0 : (b == 0) = false := by simpa using h0
      have hb1 : (b == -1) = false := by simpa using h1
      by_cases h : -9223372036854775808 ≤ a * b ∧ a * b ≤ 9223372036854775807
      · rw [fitV_yes h, fitB_yes h]
        have hk := back_yes h0 ha h
        go_enter Try.func46, Try.ntmps46
        go_wp2
        go_ret2
        exact ⟨rfl, rfl⟩
      · rw [fitV_no h, fitB_no h]
        have hk : (wrap64 ((wrap64 (a * b)).tdiv b) != a) = true := by simpa using back_no h0 hb h h1 ha
        clear h
        go_enter Try.func46, Try.ntmps46
        go_wp2
        go_ret2
        exact ⟨rfl, rfl⟩

/-- A number without its sign, if that fits. -/
theorem absolute_any (a : Int) (w : World) (ha : -9223372036854775808 ≤ a ∧ a ≤ 9223372036854775807) :
    Calls Try.prog 62 #[.int .i64 a] w fun e w' => e = .returned (.tuple #[.int .i64 (fitV a.natAbs), .bool (fitB a.natAbs)]) ∧ w = w' := by
  by_cases h : a < 0
  · have e : (a.natAbs : Int) = -a := by omega
    rw [e]
    go_enter Try.func62, Try.ntmps62
    go_wp2_with (go_at_call 60; refine (sub_any _ _ _ (by decide) ha).mono ?_; rintro e w' ⟨rfl, rfl⟩)
    go_ret2
    exact ⟨rfl, rfl⟩
  · have e : (a.natAbs : Int) = a := by omega
    rw [e, fitV_yes ha, fitB_yes ha]
    go_enter Try.func62, Try.ntmps62
    go_wp2
    go_ret2
    exact ⟨rfl, rfl⟩

/-- The greatest common divisor of two numbers, but for its sign; of two that are not below 0 it isn't below 0. -/
theorem common_any (a b : Int) (w : World) (ha : -9223372036854775808 ≤ a ∧ a ≤ 9223372036854775807) (hb : -9223372036854775808 ≤ b ∧ b ≤ 9223372036854775807) :
    Calls Try.prog 61 #[.int .i64 a, .int .i64 b] w fun e w' => ∃ (g : Int) (n : Nat), e = .returned (.int .i64 g) ∧ w' = w.drewN n ∧ (-9223372036854775808 ≤ g ∧ g ≤ 9223372036854775807) ∧ g.natAbs = Nat.gcd a.natAbs b.natAbs ∧ (0 ≤ a → 0 ≤ b → 0 ≤ g) := by
  go_enter Try.func61, Try.ntmps61
  go_wp2
  go_loopw [0, 1] (fun p q w' => ∃ (n : Nat) (x y : Int), w' = w.drewN n ∧ p = .int .i64 x ∧ q = .int .i64 y ∧ (-9223372036854775808 ≤ x ∧ x ≤ 9223372036854775807) ∧ (-9223372036854775808 ≤ y ∧ y ≤ 9223372036854775807) ∧ Nat.gcd x.natAbs y.natAbs = Nat.gcd a.natAbs b.natAbs ∧ (0 ≤ a → 0 ≤ b → 0 ≤ x ∧ 0 ≤ y)) (fun _ q _ => (intOf q).natAbs)
  case atStart => exact ⟨0, a, b, rfl, rfl, rfl, ha, hb, rfl, fun h1 h2 => ⟨h1, h2⟩⟩
  case round =>
    obtain ⟨n, x, y, rfl, rfl, rfl, ⟨hx1, hx2⟩, ⟨hy1, hy2⟩, hg, hs⟩ := hrel
    have HG : Hid (Nat.gcd x.natAbs y.natAbs = Nat.gcd a.natAbs b.natAbs) := hg
    clear hg
    by_cases hy : y = 0
    · subst hy
      go_wp2
      go_ret
      refine ⟨x, n, rfl, rfl, ⟨hx1, hx2⟩, ?_, fun h1 h2 => (hs h1 h2).1⟩
      have := HG.out
      simpa using this
    · have hy0 : (y == 0) = false := by simpa using hy
      have hm := rem_facts x y hy hx1 hx2
      go_wp2
      go_quiet (fail)
      go_wp2
      go_roundw
      case rel => exact ⟨n + nq, y, x.tmod y, World.drewN_drewN _ _ _, rfl, rfl, ⟨hy1, hy2⟩, hm.2.1, hm.2.2.2.1.trans HG.out, fun h1 h2 => ⟨(hs h1 h2).2, hm.2.2.2.2 (hs h1 h2).1⟩⟩
      case measure => exact hm.2.2.1

/-- The same of two numbers that are not below 0. -/
theorem common_nat (a b : Nat) (w : World) (ha : a ≤ 9223372036854775807) (hb : b ≤ 9223372036854775807) :
    Calls Try.prog 61 #[.int .i64 a, .int .i64 b] w fun e w' => ∃ n : Nat, e = .returned (.int .i64 (Nat.gcd a b : Nat)) ∧ w' = w.drewN n := by
  refine (common_any a b w (by omega) (by omega)).mono ?_
  rintro e w' ⟨g, n, rfl, rfl, -, hg, hp⟩
  have h1 := hp (by omega) (by omega)
  refine ⟨n, ret_one ?_, rfl⟩
  have e1 : (a : Int).natAbs = a := by omega
  have e2 : (b : Int).natAbs = b := by omega
  rw [e1, e2] at hg
  omega
end Go.Proofs.Ytgjeihdibcjjcab
