/- Texts of one chain, laid one behind the other. -/
import Derived.Test.YtigaimkflngneaaPartNestRunsUpto22
import Derived.BigQuiet
import Derived.Deep.QuietTactic
namespace Go.Proofs.Ytigaimkflngneaa
open Go.ChangeShapes Go.WideShapes Go.ChangeAt Go.RowKit
set_option maxRecDepth 100000 in
set_option maxHeartbeats 16000000 in
/-- Two rows that hold the same runs. -/
theorem sameY_any (a b : Option Addr) (R : List (Int × Int)) (ca cb : Nat) (w : World) (ha : AtY w a R) (hb : AtY w b R) (hm : R.length ≤ 4611686018427387904) :
    Calls Try.prog 10 #[.slice a R.length ca, .slice b R.length cb] w fun e w' => e = .returned (.bool true) ∧ Below w.heap.size w w' := by
  obtain ⟨RE, hRE⟩ : ∃ Q : Ending → World → Prop, (fun e w' => e = .returned (.bool true) ∧ Below w.heap.size w w') = Q := ⟨_, rfl⟩
  rw [hRE]
  have HRE := hiddenN hRE
  obtain ⟨L, hL⟩ : ∃ L, R.length = L := ⟨_, rfl⟩
  have HL := hiddenN hL
  have A0 := hiddenN ha
  have A1 := hiddenN hb
  rw [hL] at hm ⊢
  have hLI : (L : Int) ≤ 4611686018427387904 := by omega
  have e0 : ((L : Int) != (L : Int)) = false := by simp
  clear hRE hL ha hb
  go_enter Try.func10, Try.ntmps10
  go_upto_region 4 with fail
  go_loopg [5] L (fun gk iv wr => ∃ (k : Nat), k ≤ L ∧ gk = L - k ∧ iv = .int .i64 (k : Int) ∧ Below w.heap.size w wr)
  case atStart => exact ⟨0, Nat.zero_le _, rfl, rfl, Below.refl _ _⟩
  case round =>
    obtain ⟨k, hk, rfl, rfl, hb⟩ := hrel
    have HB := hiddenN hb
    clear hb
    by_cases hlt : k < L
    · have hkR : k < R.length := by rw [HL.out]; exact hlt
      have hki : (k : Int) < (L : Int) := by omega
      rcases (A0.out.below HB.out) with e | ⟨ab, ao, rfl, hcl⟩
      · rw [e] at hkR; exact absurd hkR (Nat.not_lt_zero _)
      rcases (A1.out.below HB.out) with e | ⟨bb, bo, rfl, hcm⟩
      · rw [e] at hkR; exact absurd hkR (Nat.not_lt_zero _)
      obtain ⟨c0, c1⟩ := hcl k hkR
      obtain ⟨d0, d1⟩ := hcm k hkR
      clear hcl hcm
      generalize (nthY R k).1 = nd at *
      generalize (nthY R k).2 = ti at *
      go_upto_region 6 with fail
      go_quiet (fail)
      have HB2 := hiddenN (drewB HB.out nq)
      generalize wr.drewN nq = W2 at *
      go_wp2
      go_roundg (L - (k + 1))
      case measure => omega
      case rel => exact ⟨k + 1, by omega, rfl, by go_num, HB2.out⟩
    · have ek : L = k := by omega
      subst ek
      have hki : ¬ ((L : Int) < (L : Int)) := by omega
      go_wp2
      rw [← HRE.out]
      exact ⟨rfl, HB.out⟩
end Go.Proofs.Ytigaimkflngneaa
