/- The document's New, Valid and Inv (pianolaref02): the same plain functions. -/
import Derived.Test.YtcklodmhlhjipaaFrScaleB
import Derived.Test.YtcklodmhlhjipaaRefGcd
namespace Go.Proofs.Ytcklodmhlhjipaa
open Go.ChangeShapes Go.WideShapes Go.ChangeAt Go.RowKit

/-- What the document's reckoning of lowest terms comes to, without signs first. -/
theorem rlow_facts {n d : Int} (hn : -9223372036854775808 ≤ n ∧ n ≤ 9223372036854775807) (hd : -9223372036854775808 ≤ d ∧ d ≤ 9223372036854775807) (d0 : d ≠ 0) :
    ∃ A B : Nat, ((n.natAbs : Int) / (gg n d : Int) = (A : Int)) ∧ ((d.natAbs : Int) / (gg n d : Int) = (B : Int)) ∧ A ≤ n.natAbs ∧ B ≤ 9223372036854775808 ∧ 1 ≤ B ∧ A ≤ 9223372036854775808 ∧ lowD n d = (B : Int) ∧ (n = 0 → A = 0) ∧
      ((n < 0 ∧ 0 < d ∨ 0 < n ∧ d < 0) → lowN n d = -(A : Int)) ∧ ((n < 0 ∧ d < 0 ∨ 0 < n ∧ 0 < d ∨ n = 0) → lowN n d = (A : Int)) := by
  obtain ⟨p, q, -, -, tp, tq, -, hq0, lp, lq, hs, ap, aq, sp, zp⟩ := low_facts (n := n) d0
  refine ⟨p.natAbs, q.natAbs, by rw [ap]; omega, by rw [aq]; omega, lp, by omega, by omega, by omega, ?_, fun h => by have := zp.1 h; omega, fun h => ?_, fun h => ?_⟩
  · unfold lowD; rw [tq]
    by_cases h : d < 0
    · rw [if_pos h]; have := hs.1 h; omega
    · rw [if_neg h]; have : ¬ q < 0 := fun k => h (hs.2 k); omega
  · unfold lowN; rw [tp]
    rcases h with ⟨h1, h2⟩ | ⟨h1, h2⟩
    · rw [if_neg (by omega)]; have := sp.1 h1; omega
    · rw [if_pos h2]; have : ¬ p < 0 := fun k => by have := sp.2 k; omega
      omega
  · unfold lowN; rw [tp]
    rcases h with ⟨h1, h2⟩ | ⟨h1, h2⟩ | h1
    · rw [if_pos h2]; have := sp.1 h1; omega
    · rw [if_neg (by omega)]; have : ¬ p < 0 := fun k => by have := sp.2 k; omega
      omega
    · have := zp.1 h1
      subst this
      split <;> simp


set_option maxRecDepth 100000 in
set_option maxHeartbeats 400000 in
theorem rnew_big (n d : Int) (A B An Bn g : Nat) (w : World) (hd0 : (d == 0) = false)
    (s1 : ∀ w, Calls Try.prog 33 #[.int .i64 n] w fun e w' => e = .returned (.int .u64 (An : Nat)) ∧ w = w') (s2 : ∀ w, Calls Try.prog 33 #[.int .i64 d] w fun e w' => e = .returned (.int .u64 (Bn : Nat)) ∧ w = w')
    (hc : ∀ w, Calls Try.prog 32 #[.int .u64 (An : Nat), .int .u64 (Bn : Nat)] w fun e w' => e = .returned (.int .u64 (g : Nat)) ∧ w = w')
    (g0 : ¬ g = 0) (hA : (An : Int) / (g : Int) = (A : Int)) (hB : (Bn : Int) / (g : Int) = (B : Int)) (lA : A ≤ 9223372036854775808) (lB : B ≤ 9223372036854775808) (fB : (9223372036854775807 : Int) < (B : Int)) :
    Calls Try.prog 10 #[.int .i64 n, .int .i64 d] w fun e w' => e = .returned (.tuple #[.agg #[.int .i64 0, .int .i64 0], .int .i64 4]) ∧ Below w.heap.size w w' := by
  have uA : IntKind.u64.wrap (A : Int) = (A : Int) := by rw [IntKind.wrap_u64]; omega
  have uB : IntKind.u64.wrap (B : Int) = (B : Int) := by rw [IntKind.wrap_u64]; omega
  clear lA lB
  go_enter Try.func10, Try.ntmps10
  go_wp2_with (first
    | (go_at_call 33; (with_reducible refine (s1 _).mono ?_); rintro e w' ⟨rfl, rfl⟩)
    | (go_at_call 33; (with_reducible refine (s2 _).mono ?_); rintro e w' ⟨rfl, rfl⟩)
    | (go_at_call 32; refine (hc _).mono ?_; rintro e w' ⟨rfl, rfl⟩))
  refine bodyPost_ret (v := .tuple #[.agg #[.int .i64 0, .int .i64 0], .int .i64 4]) (by simp [results, Try.results10, go_sem]) rfl ⟨rfl, ?_⟩
  exact (Below.refl _ _).alloc (Nat.le_refl _) _

set_option maxRecDepth 100000 in
set_option maxHeartbeats 400000 in
theorem rnew_neg1 (n d : Int) (A B An Bn g : Nat) (w : World) (hd0 : (d == 0) = false)
    (s1 : ∀ w, Calls Try.prog 33 #[.int .i64 n] w fun e w' => e = .returned (.int .u64 (An : Nat)) ∧ w = w') (s2 : ∀ w, Calls Try.prog 33 #[.int .i64 d] w fun e w' => e = .returned (.int .u64 (Bn : Nat)) ∧ w = w')
    (hc : ∀ w, Calls Try.prog 32 #[.int .u64 (An : Nat), .int .u64 (Bn : Nat)] w fun e w' => e = .returned (.int .u64 (g : Nat)) ∧ w = w')
    (g0 : ¬ g = 0) (hA : (An : Int) / (g : Int) = (A : Int)) (hB : (Bn : Int) / (g : Int) = (B : Int)) (lA : A ≤ 9223372036854775808) (lB : B ≤ 9223372036854775808) (fB : ¬ (9223372036854775807 : Int) < (B : Int)) (h1 : n < 0) (h2 : 0 < d) :
    Calls Try.prog 10 #[.int .i64 n, .int .i64 d] w fun e w' => e = .returned (.tuple #[.agg #[.int .i64 (-(A : Int)), .int .i64 (B : Int)], .int .i64 0]) ∧ Below w.heap.size w w' := by
  have uA : IntKind.u64.wrap (A : Int) = (A : Int) := by rw [IntKind.wrap_u64]; omega
  have uB : IntKind.u64.wrap (B : Int) = (B : Int) := by rw [IntKind.wrap_u64]; omega
  have q0 : (n != 0) = true := by simp; omega
  have h3 : decide (d < 0) = false := decide_eq_false (by omega)
  have iB : IntKind.i64.wrap (B : Int) = (B : Int) := by rw [IntKind.wrap_i64]; omega
  have jB : wrap64 (B : Int) = (B : Int) := by unfold wrap64; omega
  have nA : ¬ (9223372036854775808 : Int) < (A : Int) := by omega
  obtain ⟨N, uN⟩ : ∃ N : Int, IntKind.u64.wrap (-(A : Int)) = N := ⟨_, rfl⟩
  have vN : N = if A = 0 then 0 else 18446744073709551616 - (A : Int) := by rw [← uN, IntKind.wrap_u64]; split <;> omega
  have wN : wrap64 N = -(A : Int) := by rw [vN]; unfold wrap64; split <;> omega
  have xN : IntKind.i64.wrap N = -(A : Int) := by rw [vN, IntKind.wrap_i64]; split <;> omega
  clear vN
  clear lA lB
  go_enter Try.func10, Try.ntmps10
  go_wp2_with (first
    | (go_at_call 33; (with_reducible refine (s1 _).mono ?_); rintro e w' ⟨rfl, rfl⟩)
    | (go_at_call 33; (with_reducible refine (s2 _).mono ?_); rintro e w' ⟨rfl, rfl⟩)
    | (go_at_call 32; refine (hc _).mono ?_; rintro e w' ⟨rfl, rfl⟩))
  refine bodyPost_ret (v := .tuple #[.agg #[.int .i64 (-(A : Int)), .int .i64 (B : Int)], .int .i64 0]) (by simp [results, Try.results10, go_sem]) rfl ⟨rfl, ?_⟩
  exact (Below.refl _ _).alloc (Nat.le_refl _) _

set_option maxRecDepth 100000 in
set_option maxHeartbeats 400000 in
theorem rnew_neg2 (n d : Int) (A B An Bn g : Nat) (w : World) (hd0 : (d == 0) = false)
    (s1 : ∀ w, Calls Try.prog 33 #[.int .i64 n] w fun e w' => e = .returned (.int .u64 (An : Nat)) ∧ w = w') (s2 : ∀ w, Calls Try.prog 33 #[.int .i64 d] w fun e w' => e = .returned (.int .u64 (Bn : Nat)) ∧ w = w')
    (hc : ∀ w, Calls Try.prog 32 #[.int .u64 (An : Nat), .int .u64 (Bn : Nat)] w fun e w' => e = .returned (.int .u64 (g : Nat)) ∧ w = w')
    (g0 : ¬ g = 0) (hA : (An : Int) / (g : Int) = (A : Int)) (hB : (Bn : Int) / (g : Int) = (B : Int)) (lA : A ≤ 9223372036854775808) (lB : B ≤ 9223372036854775808) (fB : ¬ (9223372036854775807 : Int) < (B : Int)) (h1 : 0 < n) (h2 : d < 0) :
    Calls Try.prog 10 #[.int .i64 n, .int .i64 d] w fun e w' => e = .returned (.tuple #[.agg #[.int .i64 (-(A : Int)), .int .i64 (B : Int)], .int .i64 0]) ∧ Below w.heap.size w w' := by
  have uA : IntKind.u64.wrap (A : Int) = (A : Int) := by rw [IntKind.wrap_u64]; omega
  have uB : IntKind.u64.wrap (B : Int) = (B : Int) := by rw [IntKind.wrap_u64]; omega
  have q0 : (n != 0) = true := by simp; omega
  have h3 : decide (n < 0) = false := decide_eq_false (by omega)
  have h4 : decide (d < 0) = true := decide_eq_true h2
  have iB : IntKind.i64.wrap (B : Int) = (B : Int) := by rw [IntKind.wrap_i64]; omega
  have jB : wrap64 (B : Int) = (B : Int) := by unfold wrap64; omega
  have nA : ¬ (9223372036854775808 : Int) < (A : Int) := by omega
  obtain ⟨N, uN⟩ : ∃ N : Int, IntKind.u64.wrap (-(A : Int)) = N := ⟨_, rfl⟩
  have vN : N = if A = 0 then 0 else 18446744073709551616 - (A : Int) := by rw [← uN, IntKind.wrap_u64]; split <;> omega
  have wN : wrap64 N = -(A : Int) := by rw [vN]; unfold wrap64; split <;> omega
  have xN : IntKind.i64.wrap N = -(A : Int) := by rw [vN, IntKind.wrap_i64]; split <;> omega
  clear vN
  clear lA lB
  go_enter Try.func10, Try.ntmps10
  go_wp2_with (first
    | (go_at_call 33; (with_reducible refine (s1 _).mono ?_); rintro e w' ⟨rfl, rfl⟩)
    | (go_at_call 33; (with_reducible refine (s2 _).mono ?_); rintro e w' ⟨rfl, rfl⟩)
    | (go_at_call 32; refine (hc _).mono ?_; rintro e w' ⟨rfl, rfl⟩))
  refine bodyPost_ret (v := .tuple #[.agg #[.int .i64 (-(A : Int)), .int .i64 (B : Int)], .int .i64 0]) (by simp [results, Try.results10, go_sem]) rfl ⟨rfl, ?_⟩
  exact (Below.refl _ _).alloc (Nat.le_refl _) _

set_option maxRecDepth 100000 in
set_option maxHeartbeats 400000 in
theorem rnew_abig (n d : Int) (A B An Bn g : Nat) (w : World) (hd0 : (d == 0) = false)
    (s1 : ∀ w, Calls Try.prog 33 #[.int .i64 n] w fun e w' => e = .returned (.int .u64 (An : Nat)) ∧ w = w') (s2 : ∀ w, Calls Try.prog 33 #[.int .i64 d] w fun e w' => e = .returned (.int .u64 (Bn : Nat)) ∧ w = w')
    (hc : ∀ w, Calls Try.prog 32 #[.int .u64 (An : Nat), .int .u64 (Bn : Nat)] w fun e w' => e = .returned (.int .u64 (g : Nat)) ∧ w = w')
    (g0 : ¬ g = 0) (hA : (An : Int) / (g : Int) = (A : Int)) (hB : (Bn : Int) / (g : Int) = (B : Int)) (lA : A ≤ 9223372036854775808) (lB : B ≤ 9223372036854775808) (fB : ¬ (9223372036854775807 : Int) < (B : Int)) (fA : (9223372036854775807 : Int) < (A : Int)) (h1 : n < 0) (h2 : d < 0) :
    Calls Try.prog 10 #[.int .i64 n, .int .i64 d] w fun e w' => e = .returned (.tuple #[.agg #[.int .i64 0, .int .i64 0], .int .i64 4]) ∧ Below w.heap.size w w' := by
  have uA : IntKind.u64.wrap (A : Int) = (A : Int) := by rw [IntKind.wrap_u64]; omega
  have uB : IntKind.u64.wrap (B : Int) = (B : Int) := by rw [IntKind.wrap_u64]; omega
  have q0 : (n != 0) = true := by simp; omega
  clear lA lB
  go_enter Try.func10, Try.ntmps10
  go_wp2_with (first
    | (go_at_call 33; (with_reducible refine (s1 _).mono ?_); rintro e w' ⟨rfl, rfl⟩)
    | (go_at_call 33; (with_reducible refine (s2 _).mono ?_); rintro e w' ⟨rfl, rfl⟩)
    | (go_at_call 32; refine (hc _).mono ?_; rintro e w' ⟨rfl, rfl⟩))
  refine bodyPost_ret (v := .tuple #[.agg #[.int .i64 0, .int .i64 0], .int .i64 4]) (by simp [results, Try.results10, go_sem]) rfl ⟨rfl, ?_⟩
  exact (Below.refl _ _).alloc (Nat.le_refl _) _

set_option maxRecDepth 100000 in
set_option maxHeartbeats 400000 in
theorem rnew_pos1 (n d : Int) (A B An Bn g : Nat) (w : World) (hd0 : (d == 0) = false)
    (s1 : ∀ w, Calls Try.prog 33 #[.int .i64 n] w fun e w' => e = .returned (.int .u64 (An : Nat)) ∧ w = w') (s2 : ∀ w, Calls Try.prog 33 #[.int .i64 d] w fun e w' => e = .returned (.int .u64 (Bn : Nat)) ∧ w = w')
    (hc : ∀ w, Calls Try.prog 32 #[.int .u64 (An : Nat), .int .u64 (Bn : Nat)] w fun e w' => e = .returned (.int .u64 (g : Nat)) ∧ w = w')
    (g0 : ¬ g = 0) (hA : (An : Int) / (g : Int) = (A : Int)) (hB : (Bn : Int) / (g : Int) = (B : Int)) (lA : A ≤ 9223372036854775808) (lB : B ≤ 9223372036854775808) (fB : ¬ (9223372036854775807 : Int) < (B : Int)) (fA : ¬ (9223372036854775807 : Int) < (A : Int)) (h1 : n < 0) (h2 : d < 0) :
    Calls Try.prog 10 #[.int .i64 n, .int .i64 d] w fun e w' => e = .returned (.tuple #[.agg #[.int .i64 (A : Int), .int .i64 (B : Int)], .int .i64 0]) ∧ Below w.heap.size w w' := by
  have uA : IntKind.u64.wrap (A : Int) = (A : Int) := by rw [IntKind.wrap_u64]; omega
  have uB : IntKind.u64.wrap (B : Int) = (B : Int) := by rw [IntKind.wrap_u64]; omega
  have q0 : (n != 0) = true := by simp; omega
  have iB : IntKind.i64.wrap (B : Int) = (B : Int) := by rw [IntKind.wrap_i64]; omega
  have jB : wrap64 (B : Int) = (B : Int) := by unfold wrap64; omega
  have iA : IntKind.i64.wrap (A : Int) = (A : Int) := by rw [IntKind.wrap_i64]; omega
  have jA : wrap64 (A : Int) = (A : Int) := by unfold wrap64; omega
  have h3 : decide (n < 0) = true := decide_eq_true h1
  have h4 : decide (d < 0) = true := decide_eq_true h2
  clear lA lB h1 h2
  go_enter Try.func10, Try.ntmps10
  go_wp2_with (first
    | (go_at_call 33; (with_reducible refine (s1 _).mono ?_); rintro e w' ⟨rfl, rfl⟩)
    | (go_at_call 33; (with_reducible refine (s2 _).mono ?_); rintro e w' ⟨rfl, rfl⟩)
    | (go_at_call 32; refine (hc _).mono ?_; rintro e w' ⟨rfl, rfl⟩))
  refine bodyPost_ret (v := .tuple #[.agg #[.int .i64 (A : Int), .int .i64 (B : Int)], .int .i64 0]) (by simp [results, Try.results10, go_sem]) rfl ⟨rfl, ?_⟩
  exact (Below.refl _ _).alloc (Nat.le_refl _) _

set_option maxRecDepth 100000 in
set_option maxHeartbeats 400000 in
theorem rnew_pos2 (n d : Int) (A B An Bn g : Nat) (w : World) (hd0 : (d == 0) = false)
    (s1 : ∀ w, Calls Try.prog 33 #[.int .i64 n] w fun e w' => e = .returned (.int .u64 (An : Nat)) ∧ w = w') (s2 : ∀ w, Calls Try.prog 33 #[.int .i64 d] w fun e w' => e = .returned (.int .u64 (Bn : Nat)) ∧ w = w')
    (hc : ∀ w, Calls Try.prog 32 #[.int .u64 (An : Nat), .int .u64 (Bn : Nat)] w fun e w' => e = .returned (.int .u64 (g : Nat)) ∧ w = w')
    (g0 : ¬ g = 0) (hA : (An : Int) / (g : Int) = (A : Int)) (hB : (Bn : Int) / (g : Int) = (B : Int)) (lA : A ≤ 9223372036854775808) (lB : B ≤ 9223372036854775808) (fB : ¬ (9223372036854775807 : Int) < (B : Int)) (fA : ¬ (9223372036854775807 : Int) < (A : Int)) (h1 : 0 < n) (h2 : 0 < d) :
    Calls Try.prog 10 #[.int .i64 n, .int .i64 d] w fun e w' => e = .returned (.tuple #[.agg #[.int .i64 (A : Int), .int .i64 (B : Int)], .int .i64 0]) ∧ Below w.heap.size w w' := by
  have uA : IntKind.u64.wrap (A : Int) = (A : Int) := by rw [IntKind.wrap_u64]; omega
  have uB : IntKind.u64.wrap (B : Int) = (B : Int) := by rw [IntKind.wrap_u64]; omega
  have q0 : (n != 0) = true := by simp; omega
  have h3 : decide (n < 0) = false := decide_eq_false (by omega)
  have h4 : decide (d < 0) = false := decide_eq_false (by omega)
  have iB : IntKind.i64.wrap (B : Int) = (B : Int) := by rw [IntKind.wrap_i64]; omega
  have jB : wrap64 (B : Int) = (B : Int) := by unfold wrap64; omega
  have iA : IntKind.i64.wrap (A : Int) = (A : Int) := by rw [IntKind.wrap_i64]; omega
  have jA : wrap64 (A : Int) = (A : Int) := by unfold wrap64; omega
  clear lA lB h1 h2
  go_enter Try.func10, Try.ntmps10
  go_wp2_with (first
    | (go_at_call 33; (with_reducible refine (s1 _).mono ?_); rintro e w' ⟨rfl, rfl⟩)
    | (go_at_call 33; (with_reducible refine (s2 _).mono ?_); rintro e w' ⟨rfl, rfl⟩)
    | (go_at_call 32; refine (hc _).mono ?_; rintro e w' ⟨rfl, rfl⟩))
  refine bodyPost_ret (v := .tuple #[.agg #[.int .i64 (A : Int), .int .i64 (B : Int)], .int .i64 0]) (by simp [results, Try.results10, go_sem]) rfl ⟨rfl, ?_⟩
  exact (Below.refl _ _).alloc (Nat.le_refl _) _

set_option maxRecDepth 100000 in
set_option maxHeartbeats 400000 in
theorem rnew_pos3 (n d : Int) (A B An Bn g : Nat) (w : World) (hd0 : (d == 0) = false)
    (s1 : ∀ w, Calls Try.prog 33 #[.int .i64 n] w fun e w' => e = .returned (.int .u64 (An : Nat)) ∧ w = w') (s2 : ∀ w, Calls Try.prog 33 #[.int .i64 d] w fun e w' => e = .returned (.int .u64 (Bn : Nat)) ∧ w = w')
    (hc : ∀ w, Calls Try.prog 32 #[.int .u64 (An : Nat), .int .u64 (Bn : Nat)] w fun e w' => e = .returned (.int .u64 (g : Nat)) ∧ w = w')
    (g0 : ¬ g = 0) (hA : (An : Int) / (g : Int) = (A : Int)) (hB : (Bn : Int) / (g : Int) = (B : Int)) (lA : A ≤ 9223372036854775808) (lB : B ≤ 9223372036854775808) (fB : ¬ (9223372036854775807 : Int) < (B : Int)) (fA : ¬ (9223372036854775807 : Int) < (A : Int)) (h1 : (n != 0) = false) :
    Calls Try.prog 10 #[.int .i64 n, .int .i64 d] w fun e w' => e = .returned (.tuple #[.agg #[.int .i64 (A : Int), .int .i64 (B : Int)], .int .i64 0]) ∧ Below w.heap.size w w' := by
  have uA : IntKind.u64.wrap (A : Int) = (A : Int) := by rw [IntKind.wrap_u64]; omega
  have uB : IntKind.u64.wrap (B : Int) = (B : Int) := by rw [IntKind.wrap_u64]; omega
  have iB : IntKind.i64.wrap (B : Int) = (B : Int) := by rw [IntKind.wrap_i64]; omega
  have jB : wrap64 (B : Int) = (B : Int) := by unfold wrap64; omega
  have iA : IntKind.i64.wrap (A : Int) = (A : Int) := by rw [IntKind.wrap_i64]; omega
  have jA : wrap64 (A : Int) = (A : Int) := by unfold wrap64; omega
  clear lA lB
  go_enter Try.func10, Try.ntmps10
  go_wp2_with (first
    | (go_at_call 33; (with_reducible refine (s1 _).mono ?_); rintro e w' ⟨rfl, rfl⟩)
    | (go_at_call 33; (with_reducible refine (s2 _).mono ?_); rintro e w' ⟨rfl, rfl⟩)
    | (go_at_call 32; refine (hc _).mono ?_; rintro e w' ⟨rfl, rfl⟩))
  refine bodyPost_ret (v := .tuple #[.agg #[.int .i64 (A : Int), .int .i64 (B : Int)], .int .i64 0]) (by simp [results, Try.results10, go_sem]) rfl ⟨rfl, ?_⟩
  exact (Below.refl _ _).alloc (Nat.le_refl _) _

set_option maxRecDepth 100000 in
theorem rnew_any (n d : Int) (w : World) (hn : -9223372036854775808 ≤ n ∧ n ≤ 9223372036854775807) (hd : -9223372036854775808 ≤ d ∧ d ≤ 9223372036854775807) :
    Calls Try.prog 10 #[.int .i64 n, .int .i64 d] w (NewEnd w n d) := by
  by_cases d0 : d = 0
  · subst d0
    have K : Hid (newN n 0 = 0 ∧ newD n 0 = 0 ∧ newE n 0 = 20) := new_zero n
    go_enter Try.func10, Try.ntmps10
    go_wp2
    refine bodyPost_ret (v := .tuple #[.agg #[.int .i64 0, .int .i64 0], .int .i64 20]) (by simp [results, Try.results10, go_sem]) rfl ⟨by rw [K.out.1, K.out.2.1, K.out.2.2], ?_⟩
    exact (Below.refl _ _).alloc (Nat.le_refl _) _
  · have hd0 : (d == 0) = false := by simpa using d0
    have s1 := fun w => rsize_any n w hn
    have s2 := fun w => rsize_any d w hd
    have hc : ∀ w, Calls Try.prog 32 #[.int .u64 (n.natAbs : Nat), .int .u64 (d.natAbs : Nat)] w fun e w' => e = .returned (.int .u64 (gg n d : Nat)) ∧ w = w' := fun w => rcommon_any n.natAbs d.natAbs w (by omega) (by omega)
    have hg1 := gg_pos_right (n := n) d0
    have g0 : ¬ gg n d = 0 := by omega
    obtain ⟨A, B, hA, hB, hA0, hB1, hB0, hA1, eD, z0, eN1, eN2⟩ := rlow_facts hn hd d0
    have hB' : lowB n d = (fitB (lowN n d) && fitB (B : Int)) := by unfold lowB; rw [eD]
    by_cases fB : (9223372036854775807 : Int) < (B : Int)
    · have k := new_no d0 (by rw [hB', fitB_no (x := (B : Int)) (by omega), Bool.and_false])
      refine (rnew_big n d A B _ _ _ w hd0 s1 s2 hc g0 hA hB hA1 hB1 fB).mono fun e w' h => ?_
      unfold NewEnd; rw [k.1, k.2.1, k.2.2]; exact h
    · rw [fitB_yes (x := (B : Int)) (by omega), Bool.and_true] at hB'
      by_cases sg : n < 0 ∧ 0 < d ∨ 0 < n ∧ d < 0
      · have k := new_yes d0 (by rw [hB', eN1 sg]; exact fitB_yes (by omega))
        rw [eN1 sg, eD] at k
        have hend : ∀ e w', (e = Ending.returned (.tuple #[.agg #[.int .i64 (-(A : Int)), .int .i64 (B : Int)], .int .i64 0]) ∧ Below w.heap.size w w') → NewEnd w n d e w' := fun e w' h => by unfold NewEnd; rw [k.1, k.2.1, k.2.2]; exact h
        rcases sg with ⟨h1, h2⟩ | ⟨h1, h2⟩
        · exact (rnew_neg1 n d A B _ _ _ w hd0 s1 s2 hc g0 hA hB hA1 hB1 fB h1 h2).mono hend
        · exact (rnew_neg2 n d A B _ _ _ w hd0 s1 s2 hc g0 hA hB hA1 hB1 fB h1 h2).mono hend
      · have sg' : n < 0 ∧ d < 0 ∨ 0 < n ∧ 0 < d ∨ n = 0 := by omega
        by_cases fA : (9223372036854775807 : Int) < (A : Int)
        · have k := new_no d0 (by rw [hB', eN2 sg']; exact fitB_no (by omega))
          refine (rnew_abig n d A B _ _ _ w hd0 s1 s2 hc g0 hA hB hA1 hB1 fB fA (by omega) (by omega)).mono fun e w' h => ?_
          unfold NewEnd; rw [k.1, k.2.1, k.2.2]; exact h
        · have k := new_yes d0 (by rw [hB', eN2 sg']; exact fitB_yes (by omega))
          rw [eN2 sg', eD] at k
          have hend : ∀ e w', (e = Ending.returned (.tuple #[.agg #[.int .i64 (A : Int), .int .i64 (B : Int)], .int .i64 0]) ∧ Below w.heap.size w w') → NewEnd w n d e w' := fun e w' h => by unfold NewEnd; rw [k.1, k.2.1, k.2.2]; exact h
          rcases sg' with ⟨h1, h2⟩ | ⟨h1, h2⟩ | h1
          · exact (rnew_pos1 n d A B _ _ _ w hd0 s1 s2 hc g0 hA hB hA1 hB1 fB fA h1 h2).mono hend
          · exact (rnew_pos2 n d A B _ _ _ w hd0 s1 s2 hc g0 hA hB hA1 hB1 fB fA h1 h2).mono hend
          · exact (rnew_pos3 n d A B _ _ _ w hd0 s1 s2 hc g0 hA hB hA1 hB1 fB fA (by rw [h1]; decide)).mono hend

set_option maxRecDepth 100000 in
set_option maxHeartbeats 400000 in
theorem rvalid_any (n d : Int) (w : World) (hn : -9223372036854775808 ≤ n ∧ n ≤ 9223372036854775807) (hd : -9223372036854775808 ≤ d ∧ d ≤ 9223372036854775807) :
    Calls Try.prog 13 #[.agg #[.int .i64 n, .int .i64 d]] w fun e w' => e = .returned (.bool (validB n d)) ∧ Below w.heap.size w w' := by
  have s1 := fun w => rsize_any n w hn
  have s2 := fun w => rsize_any d w hd
  have hc : ∀ w, Calls Try.prog 32 #[.int .u64 (n.natAbs : Nat), .int .u64 (d.natAbs : Nat)] w fun e w' => e = .returned (.int .u64 (gg n d : Nat)) ∧ w = w' := fun w => rcommon_any n.natAbs d.natAbs w (by omega) (by omega)
  have V := var2_new w (.int .i64 n) (.int .i64 d) 23
  have B : Below w.heap.size w (w.alloc (.cells #[.int .i64 n, .int .i64 d] 23)) := (Below.refl _ _).alloc (Nat.le_refl _) _
  by_cases h : 0 < d
  · have HV : Hid (validB n d = decide (gg n d = 1)) := by show validB n d = _; unfold validB; rw [decide_eq_true h]; rfl
    have hd1 : decide (0 < d) = true := decide_eq_true h
    clear hn hd
    by_cases hg : gg n d = 1
    · have HG : Hid (validB n d = true) := by show validB n d = true; rw [HV.out, decide_eq_true hg]
      rw [hg] at hc
      clear hg h
      generalize n.natAbs = An at *
      generalize d.natAbs = Bn at *
      go_enter Try.func13, Try.ntmps13
      go_wp2
      generalize w.alloc (.cells #[.int .i64 n, .int .i64 d] 23) = W at *
      have c0 := V.c0
      have c1 := V.c1
      go_quiet (first
        | (go_at_call 33; (with_reducible refine (s1 _).mono ?_); rintro e w' ⟨rfl, rfl⟩; exact ⟨rfl, _, rfl⟩)
        | (go_at_call 33; (with_reducible refine (s2 _).mono ?_); rintro e w' ⟨rfl, rfl⟩; exact ⟨rfl, _, rfl⟩)
        | (go_at_call 32; (with_reducible refine (hc _).mono ?_); rintro e w' ⟨rfl, rfl⟩; exact ⟨rfl, _, rfl⟩))
      go_wp2
      go_ret
      exact ⟨by rw [HG.out]; rfl, bdrew B nq⟩
    · have HG : Hid (validB n d = false) := by show validB n d = false; rw [HV.out, decide_eq_false hg]
      have hg1 : ((gg n d : Int) == 1) = false := by simp; omega
      clear hg h
      generalize gg n d = g at *
      generalize n.natAbs = An at *
      generalize d.natAbs = Bn at *
      go_enter Try.func13, Try.ntmps13
      go_wp2
      generalize w.alloc (.cells #[.int .i64 n, .int .i64 d] 23) = W at *
      have c0 := V.c0
      have c1 := V.c1
      go_quiet (first
        | (go_at_call 33; (with_reducible refine (s1 _).mono ?_); rintro e w' ⟨rfl, rfl⟩; exact ⟨rfl, _, rfl⟩)
        | (go_at_call 33; (with_reducible refine (s2 _).mono ?_); rintro e w' ⟨rfl, rfl⟩; exact ⟨rfl, _, rfl⟩)
        | (go_at_call 32; (with_reducible refine (hc _).mono ?_); rintro e w' ⟨rfl, rfl⟩; exact ⟨rfl, _, rfl⟩))
      go_wp2
      go_ret
      exact ⟨by rw [HG.out]; rfl, bdrew B nq⟩
  · have HG : Hid (validB n d = false) := by show validB n d = false; unfold validB; rw [decide_eq_false h]; rfl
    have hd1 : decide (0 < d) = false := decide_eq_false h
    clear hn hd h
    go_enter Try.func13, Try.ntmps13
    go_wp2
    generalize w.alloc (.cells #[.int .i64 n, .int .i64 d] 23) = W at *
    have c1 := V.c1
    go_quiet (fail)
    go_wp2
    go_ret
    exact ⟨by rw [HG.out]; rfl, bdrew B nq⟩

set_option maxRecDepth 100000 in
set_option maxHeartbeats 1000000 in
theorem rinv_any (n d : Int) (w : World) (hn : -9223372036854775808 ≤ n ∧ n ≤ 9223372036854775807) (hd : -9223372036854775808 ≤ d ∧ d ≤ 9223372036854775807) :
    Calls Try.prog 19 #[.agg #[.int .i64 n, .int .i64 d]] w (InvEnd w n d) := by
  have hv := fun w => rvalid_any n d w hn hd
  have hnew := fun w => rnew_any d n w hd hn
  have HV : Hid (∃ W, W = (w.alloc (.cells #[.int .i64 n, .int .i64 d] 23)).alloc (.cells #[.int .i64 0, .int .i64 0] 23) ∧ Var2 W w.heap.size (.int .i64 n) (.int .i64 d) ∧ Var2 W (w.heap.size + 1) (.int .i64 0) (.int .i64 0) ∧ Below w.heap.size w W) := by
    refine ⟨_, rfl, ?_, ?_, ?_⟩
    · exact (var2_new w _ _ _).alloc _
    · exact var2_at _ _ _ _ (by simp)
    · exact ((Below.refl _ _).alloc (Nat.le_refl _) _).alloc (by simp) _
  cases hB : validB n d
  · rw [hB] at hv
    have K : Hid (invN n d = 0 ∧ invD n d = 0 ∧ invE n d = 1) := ⟨by unfold invN; rw [hB]; rfl, by unfold invD; rw [hB]; rfl, by unfold invE; rw [hB]; rfl⟩
    clear hB
    go_enter Try.func19, Try.ntmps19
    go_wp2_with (go_at_call 13; obtain ⟨W, eW, k0, k1, kb⟩ := HV.out; subst eW; refine (hv _).mono ?_; rintro e w1 ⟨rfl, hb⟩; have r := k1.later hb k1.lt; have d0 := r.c0; have d1 := r.c1; have f0 := r.f0; have f1 := r.f1)
    refine bodyPost_ret (v := .tuple #[.agg #[.int .i64 0, .int .i64 0], .int .i64 1]) (by simp [results, Try.results19, go_sem, d0, d1]) rfl ⟨by rw [K.out.1, K.out.2.1, K.out.2.2], ?_⟩
    exact ((kb.trans (hb.mono kb.size)).setCell (by simp) _).setCell (by simp) _
  · rw [hB] at hv
    have K : Hid (invN n d = newN d n ∧ invD n d = newD d n ∧ invE n d = newE d n) := ⟨by unfold invN; rw [hB]; rfl, by unfold invD; rw [hB]; rfl, by unfold invE; rw [hB]; rfl⟩
    clear hB
    go_enter Try.func19, Try.ntmps19
    go_wp2_with (first
      | (go_at_call 13; obtain ⟨W, eW, k0, k1, kb⟩ := HV.out; subst eW; refine (hv _).mono ?_; rintro e w1 ⟨rfl, hb⟩; have g0 := k0.later hb k0.lt; have g1 := k1.later hb k1.lt; have a0 := g0.c0; have a1 := g0.c1)
      | (go_at_call 10; refine (hnew _).mono ?_; rintro e w2 ⟨rfl, hb2⟩; have r := g1.later hb2 g1.lt; have d0 := r.c0; have d1 := r.c1; have f0 := r.f0; have f1 := r.f1))
    refine bodyPost_ret (v := .tuple #[.agg #[.int .i64 (newN d n), .int .i64 (newD d n)], .int .i64 (newE d n)]) (by simp [results, Try.results19, go_sem, d0, d1]) rfl ⟨by rw [K.out.1, K.out.2.1, K.out.2.2], ?_⟩
    exact (((kb.trans (hb.mono kb.size)).trans (hb2.mono (kb.trans (hb.mono kb.size)).size)).setCell (by simp) _).setCell (by simp) _
end Go.Proofs.Ytcklodmhlhjipaa
