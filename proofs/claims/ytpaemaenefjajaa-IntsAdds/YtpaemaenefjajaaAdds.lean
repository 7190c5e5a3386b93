/- The walk through the statement IntsAdds. -/
import Derived.Test.YtpaemaenefjajaaRefMul
namespace Go.Proofs.Ytpaemaenefjajaa
open Go.ChangeShapes Go.WideShapes Go.ChangeAt Go.RowKit

set_option maxRecDepth 100000 in
set_option maxHeartbeats 1000000 in
theorem adds_any (a b : Int) (w : World) (ha : -9223372036854775808 ≤ a ∧ a ≤ 9223372036854775807) (hb : -9223372036854775808 ≤ b ∧ b ≤ 9223372036854775807) :
    Calls Try.prog 3 #[.int .i64 a, .int .i64 b] w fun e w' => e = .returned (.bool true) ∧ Below w.heap.size w w' := by
  have h1 := fun w => add_any a b w ha hb
  have h2 := fun w => sub_any a b w ha hb
  have h3 := fun w => mul_any a b w ha hb
  have r1 := fun w => radd_any a b w ha hb
  have r2 := fun w => rsub_any a b w ha hb
  have r3 := fun w => rmul_any a b w ha hb
  have R1 : Hid (∀ W, Calls Try.prog 12 #[.int .i64 a, .int .i64 b] W (fun e w' => e = .returned (.tuple #[.int .i64 (fitV (a + b)), .bool (fitB (a + b))]) ∧ Below W.heap.size W w')) := r1
  have R2 : Hid (∀ W, Calls Try.prog 13 #[.int .i64 a, .int .i64 b] W (fun e w' => e = .returned (.tuple #[.int .i64 (fitV (a - b)), .bool (fitB (a - b))]) ∧ Below W.heap.size W w')) := r2
  have R3 : Hid (∀ W, Calls Try.prog 14 #[.int .i64 a, .int .i64 b] W (fun e w' => e = .returned (.tuple #[.int .i64 (fitV (a * b)), .bool (fitB (a * b))]) ∧ Below W.heap.size W w')) := r3
  clear r1 r2 r3
  generalize fitV (a + b) = v1 at *
  generalize fitB (a + b) = f1 at *
  generalize fitV (a - b) = v2 at *
  generalize fitB (a - b) = f2 at *
  generalize fitV (a * b) = v3 at *
  generalize fitB (a * b) = f3 at *
  have q1 : (v1 == v1) = true := by simp
  have q2 : (v2 == v2) = true := by simp
  have q3 : (v3 == v3) = true := by simp
  have g1 : (f1 == f1) = true := by simp
  have g2 : (f2 == f2) = true := by simp
  have g3 : (f3 == f3) = true := by simp
  go_enter Try.func3, Try.ntmps3
  go_wp2_with (first
    | (go_at_call 9; refine (h1 _).mono ?_; rintro e w' ⟨rfl, rfl⟩)
    | (go_at_call 10; refine (h2 _).mono ?_; rintro e w' ⟨rfl, rfl⟩)
    | (go_at_call 11; refine (h3 _).mono ?_; rintro e w' ⟨rfl, rfl⟩)
    | (go_at_call 12; refine (R1.out _).mono ?_; rintro e w1 ⟨rfl, b1⟩)
    | (go_at_call 13; refine (R2.out _).mono ?_; rintro e w2 ⟨rfl, b2⟩)
    | (go_at_call 14; refine (R3.out _).mono ?_; rintro e w3 ⟨rfl, b3⟩)
    | (go_at_call 15; refine (awake_any _).mono ?_; rintro e w4 ⟨rfl, b4⟩))
  go_ret
  have c2 := b1.trans (b2.mono b1.size)
  have c3 := c2.trans (b3.mono c2.size)
  exact ⟨rfl, c3.trans (b4.mono c3.size)⟩
end Go.Proofs.Ytpaemaenefjajaa
