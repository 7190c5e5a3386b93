/- What the document's answer (pianolaref01) gives for sizes and greatest common divisors: the same plain functions. -/
import Derived.Test.YtgjeihdibcjjcabOwn
import Derived.Laws.Bits64
namespace Go.Proofs.Ytgjeihdibcjjcab
open Go.ChangeShapes Go.WideShapes Go.ChangeAt Go.RowKit

theorem ret_u {a b : Int} (h : a = b) : Ending.returned (.int .u64 a) = .returned (.int .u64 b) := by rw [h]

theorem rsize_any (a : Int) (w : World) (ha : -9223372036854775808 ≤ a ∧ a ≤ 9223372036854775807) :
    Calls Try.prog 54 #[.int .i64 a] w fun e w' => e = .returned (.int .u64 (a.natAbs : Nat)) ∧ w = w' := by
  obtain ⟨h1, h2⟩ := ha
  by_cases h : a < 0
  · go_enter Try.func54, Try.ntmps54
    go_wp2
    go_ret
    exact ⟨ret_u (by rw [IntKind.wrap_u64, IntKind.wrap_u64]; omega), rfl⟩
  · go_enter Try.func54, Try.ntmps54
    go_wp2
    go_ret
    exact ⟨ret_u (by omega), rfl⟩

theorem rcommon_any (a b : Nat) (w : World) (ha : a ≤ 18446744073709551615) (hb : b ≤ 18446744073709551615) :
    Calls Try.prog 14 #[.int .u64 a, .int .u64 b] w fun e w' => e = .returned (.int .u64 (Nat.gcd a b : Nat)) ∧ w = w' := by
  go_enter Try.func14, Try.ntmps14
  go_wp2
  go_loop [0, 1, 5] (fun p q _ => ∃ x y : Nat, p = .int .u64 x ∧ q = .int .u64 y ∧ x ≤ 18446744073709551615 ∧ y ≤ 18446744073709551615 ∧ Nat.gcd x y = Nat.gcd a b) (fun _ q _ => (intOf q).toNat)
  case atStart => exact ⟨a, b, rfl, rfl, ha, hb, rfl⟩
  case round =>
    obtain ⟨x, y, rfl, rfl, hx, hy, hg⟩ := hrel
    have HG : Hid (Nat.gcd x y = Nat.gcd a b) := hg
    clear hg
    by_cases h0 : y = 0
    · subst h0
      go_wp2
      go_ret
      have := HG.out
      rw [Nat.gcd_zero_right] at this
      exact ⟨by rw [← this]; rfl, rfl⟩
    · have q1 : ((y : Int) == 0) = false := by simp; omega
      have q2 : ¬ (y : Int) = 0 := by omega
      have hlt : x % y < y := Nat.mod_lt _ (by omega)
      go_wp2
      go_round
      case rel => exact ⟨y, x % y, rfl, rfl, hy, by omega, by rw [← HG.out, Nat.gcd_comm y, ← Nat.gcd_rec, Nat.gcd_comm]⟩
      case measure => simp only [intOf]; omega

theorem gcdO_le (d : Nat) (zs : List Int) (hd : d ≤ 18446744073709551615) (hz : ∀ x ∈ zs, -9223372036854775808 ≤ x ∧ x ≤ 9223372036854775807) : gcdO d zs ≤ 18446744073709551615 := by
  induction zs generalizing d with
  | nil => exact hd
  | cons y ys ih =>
    refine ih _ ?_ (fun x hx => hz x (by simp [hx]))
    by_cases h : d = 0
    · subst h; rw [Nat.gcd_zero_left]; have := hz y (by simp); omega
    · have := Nat.gcd_le_left y.natAbs (show 0 < d by omega); omega

end Go.Proofs.Ytgjeihdibcjjcab
