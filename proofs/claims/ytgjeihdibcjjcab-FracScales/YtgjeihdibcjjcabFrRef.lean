/- The document's New, Valid and Inv (pianolaref02): the same plain functions. -/
import Derived.Test.YtgjeihdibcjjcabFrScaleB
import Derived.Test.YtgjeihdibcjjcabRefGcd
namespace Go.Proofs.Ytgjeihdibcjjcab
open Go.ChangeShapes Go.WideShapes Go.ChangeAt Go.RowKit

/-- What the document's reckoning of lowest terms comes to, without signs first. -/
theorem rlow_facts {n d : Int} (hn : -9223372036854775808 ≤ n ∧ n ≤ 9223372036854775807) (hd : -9223372036854775808 ≤ d ∧ d ≤ 9223372036854775807) (d0 : d ≠ 0) :
    ∃ A B : Nat, ((n.natAbs : Int) / (gg n d : Int) = (A : Int)) ∧ ((d.natAbs : Int) / (gg n d : Int) = (B : Int)) ∧ A ≤ n.natAbs ∧ B ≤ 9223372036854775808 ∧ 1 ≤ B ∧ A ≤ 9223372036854775808 ∧ lowD n d = (B : Int) ∧ (n = 0 → A = 0) ∧
      ((n < 0 ∧ 0 < d ∨ 0 < n ∧ d < 0) → lowN n d = -(A : Int)) ∧ ((n < 0 ∧ d < 0 ∨ 0 < n ∧ 0 < d ∨ n = 0) → lowN n d = (A : Int)) := by
  obtain ⟨p, q, -, -, tp, tq, -, hq0, lp, lq, hs, ap, aq, sp, zp⟩ := low_facts (n := n) d0
  refine ⟨p.natAbs, q.natAbs, by rw [ap]; omega, by rw [aq]; omega, lp, by omega, by omega, by omega, ?_, fun h => by have := zp.1 h; omega, fun h => ?_, fun h => ?_⟩
  · unfold lowD; rw [tq]
    by_cases h : d < 0
    · rw [if_pos h]; have := hs.1 h; omega
    · rw [if_neg h]; have : ¬ q < 0 := fun k => h (hs.2 k); omega
  · unfold lowN; rw [tp]
    rcases h with ⟨h1, h2⟩ | ⟨h1, h2⟩
    · rw [if_neg (by omega)]; have := sp.1 h1; omega
    · rw [if_pos h2]; have : ¬ p < 0 := fun k => by have := sp.2 k; omega
      omega
  · unfold lowN; rw [tp]
    rcases h with ⟨h1, h2⟩ | ⟨h1, h2⟩ | h1
    · rw [if_pos h2]; have := sp.1 h1; omega
    · rw [if_neg (by omega)]; have : ¬ p < 0 := fun k => by have := sp.2 k; omega
      omega
    · have := zp.1 h1
      subst this
      split <;> simp


set_option maxRecDepth 100000 in
set_option maxHeartbeats 400000 in
theorem rvalid_any (n d : Int) (w : World) (hn : -9223372036854775808 ≤ n ∧ n ≤ 9223372036854775807) (hd : -9223372036854775808 ≤ d ∧ d ≤ 9223372036854775807) :
    Calls Try.prog 53 #[.agg #[.int .i64 n, .int .i64 d]] w fun e w' => e = .returned (.bool (validB n d)) ∧ Below w.heap.size w w' := by
  have s1 := fun w => rsize_any n w hn
  have s2 := fun w => rsize_any d w hd
  have hc : ∀ w, Calls Try.prog 14 #[.int .u64 (n.natAbs : Nat), .int .u64 (d.natAbs : Nat)] w fun e w' => e = .returned (.int .u64 (gg n d : Nat)) ∧ w = w' := fun w => rcommon_any n.natAbs d.natAbs w (by omega) (by omega)
  have V := var2_new w (.int .i64 n) (.int .i64 d) 24
  have B : Below w.heap.size w (w.alloc (.cells #[.int .i64 n, .int .i64 d] 24)) := (Below.refl _ _).alloc (Nat.le_refl _) _
  by_cases h : 0 < d
  · have HV : Hid (validB n d = decide (gg n d = 1)) := by show validB n d = _; unfold validB; rw [decide_eq_true h]; rfl
    have hd1 : decide (0 < d) = true := decide_eq_true h
    clear hn hd
    by_cases hg : gg n d = 1
    · have HG : Hid (validB n d = true) := by show validB n d = true; rw [HV.out, decide_eq_true hg]
      rw [hg] at hc
      clear hg h
      generalize n.natAbs = An at *
      generalize d.natAbs = Bn at *
      go_enter Try.func53, Try.ntmps53
      go_wp2
      generalize w.alloc (.cells #[.int .i64 n, .int .i64 d] 24) = W at *
      have c0 := V.c0
      have c1 := V.c1
      go_quiet (first
        | (go_at_call 54; (with_reducible refine (s1 _).mono ?_); rintro e w' ⟨rfl, rfl⟩; exact ⟨rfl, _, rfl⟩)
        | (go_at_call 54; (with_reducible refine (s2 _).mono ?_); rintro e w' ⟨rfl, rfl⟩; exact ⟨rfl, _, rfl⟩)
        | (go_at_call 14; (with_reducible refine (hc _).mono ?_); rintro e w' ⟨rfl, rfl⟩; exact ⟨rfl, _, rfl⟩))
      go_wp2
      go_ret
      exact ⟨by rw [HG.out]; rfl, bdrew B nq⟩
    · have HG : Hid (validB n d = false) := by show validB n d = false; rw [HV.out, decide_eq_false hg]
      have hg1 : ((gg n d : Int) == 1) = false := by simp; omega
      clear hg h
      generalize gg n d = g at *
      generalize n.natAbs = An at *
      generalize d.natAbs = Bn at *
      go_enter Try.func53, Try.ntmps53
      go_wp2
      generalize w.alloc (.cells #[.int .i64 n, .int .i64 d] 24) = W at *
      have c0 := V.c0
      have c1 := V.c1
      go_quiet (first
        | (go_at_call 54; (with_reducible refine (s1 _).mono ?_); rintro e w' ⟨rfl, rfl⟩; exact ⟨rfl, _, rfl⟩)
        | (go_at_call 54; (with_reducible refine (s2 _).mono ?_); rintro e w' ⟨rfl, rfl⟩; exact ⟨rfl, _, rfl⟩)
        | (go_at_call 14; (with_reducible refine (hc _).mono ?_); rintro e w' ⟨rfl, rfl⟩; exact ⟨rfl, _, rfl⟩))
      go_wp2
      go_ret
      exact ⟨by rw [HG.out]; rfl, bdrew B nq⟩
  · have HG : Hid (validB n d = false) := by show validB n d = false; unfold validB; rw [decide_eq_false h]; rfl
    have hd1 : decide (0 < d) = false := decide_eq_false h
    clear hn hd h
    go_enter Try.func53, Try.ntmps53
    go_wp2
    generalize w.alloc (.cells #[.int .i64 n, .int .i64 d] 24) = W at *
    have c1 := V.c1
    go_quiet (fail)
    go_wp2
    go_ret
    exact ⟨by rw [HG.out]; rfl, bdrew B nq⟩

end Go.Proofs.Ytgjeihdibcjjcab
