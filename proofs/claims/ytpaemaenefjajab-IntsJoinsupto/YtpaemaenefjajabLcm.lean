/- Plain facts on least common multiples of rows of numbers. No program is named here. -/
import Derived.Test.YtpaemaenefjajabGcd
namespace Go.Proofs.Ytpaemaenefjajab
open Go.RowKit

def multB (m : Int) : List Int → Bool
  | [] => true
  | x :: xs => ((x != 0) && (m.tmod x == 0)) && multB m xs
theorem multB_iff {m : Int} {zs : List Int} : multB m zs = true ↔ ∀ x ∈ zs, x ≠ 0 ∧ m.tmod x = 0 := by
  induction zs with
  | nil => simp [multB]
  | cons y ys ih => simp [multB, ih]
/-- What the multiple of a row from x on is, where it fits. -/
theorem lcmO_some {x l : Nat} {zs : List Int} (hx : 1 ≤ x) (hx2 : x ≤ 9223372036854775807) (h0 : zeroB zs = false) (h : lcmO x zs = some l) :
    x ∣ l ∧ (∀ y ∈ zs, y.natAbs ∣ l) ∧ 1 ≤ l ∧ l ≤ 9223372036854775807 ∧ ∀ m, x ∣ m → (∀ y ∈ zs, y.natAbs ∣ m) → l ∣ m := by
  induction zs generalizing x with
  | nil =>
    simp only [lcmO, Option.some.injEq] at h
    subst h
    exact ⟨Nat.dvd_refl _, (fun y hy => by cases hy), hx, hx2, fun m hm _ => hm⟩
  | cons y ys ih =>
    rw [zeroB, Bool.or_eq_false_iff] at h0
    have hy : y ≠ 0 := by simpa using h0.1
    rw [lcmO] at h
    cases hf : fitB (Nat.lcm x y.natAbs : Nat)
    · rw [hf] at h; cases h
    · rw [hf] at h
      simp only [if_true] at h
      have hb := fitB_true.1 hf
      have hp : 0 < Nat.lcm x y.natAbs := Nat.lcm_pos (by omega) (by omega)
      obtain ⟨h1, h2, h3, h4, h5⟩ := ih hp (by omega) h0.2 h
      refine ⟨Nat.dvd_trans (Nat.dvd_lcm_left _ _) h1, fun z hz => ?_, h3, h4, fun m hm hall => ?_⟩
      · rcases List.mem_cons.1 hz with rfl | hz
        · exact Nat.dvd_trans (Nat.dvd_lcm_right _ _) h1
        · exact h2 z hz
      · exact h5 m (Nat.lcm_dvd hm (hall y (by simp))) (fun z hz => hall z (by simp [hz]))
/-- Where it doesn't fit, no number that fits is divided by all. -/
theorem lcmO_none {x : Nat} {zs : List Int} (hx : 1 ≤ x) (h0 : zeroB zs = false) (h : lcmO x zs = none) {m : Nat} (hm : 1 ≤ m) (hm2 : m ≤ 9223372036854775807) (hd : x ∣ m) :
    ¬ ∀ y ∈ zs, y.natAbs ∣ m := by
  induction zs generalizing x with
  | nil => simp [lcmO] at h
  | cons y ys ih =>
    intro hall
    rw [zeroB, Bool.or_eq_false_iff] at h0
    have hy : y ≠ 0 := by simpa using h0.1
    rw [lcmO] at h
    have hl : Nat.lcm x y.natAbs ∣ m := Nat.lcm_dvd hd (hall y (by simp))
    have hp : 0 < Nat.lcm x y.natAbs := Nat.lcm_pos (by omega) (by omega)
    cases hf : fitB (Nat.lcm x y.natAbs : Nat)
    · have hb := fitB_false.1 hf
      have := Nat.le_of_dvd (by omega) hl
      omega
    · rw [hf] at h
      simp only [if_true] at h
      exact ih hp h0.2 h hl (fun z hz => hall z (by simp [hz]))

/-- All that the statement asks of a row's multiple. -/
theorem lcm_all (zs : List Int) (m : Int) (hm : m ≤ 9223372036854775807) :
    (0 ≤ lcmV zs ∧ lcmV zs ≤ 9223372036854775807) ∧
    (lcmB zs = true → ∀ x ∈ zs, x ≠ 0 → (lcmV zs).tmod x = 0) ∧
    (zeroB zs = true → lcmB zs = true ∧ lcmV zs = 0) ∧
    (zeroB zs = false → (lcmB zs = true → 1 ≤ lcmV zs) ∧ (lcmB zs = false → lcmV zs = 0) ∧ ((decide (0 < m) && multB m zs) = true → lcmB zs = true ∧ m.tmod (lcmV zs) = 0)) := by
  cases hz : zeroB zs
  · have hv : lcmV zs = ((lcmO 1 zs).getD 0 : Nat) := by unfold lcmV; rw [hz]; rfl
    have hb : lcmB zs = (lcmO 1 zs).isSome := by unfold lcmB; rw [hz]; rfl
    cases hl : lcmO 1 zs with
    | none =>
      rw [hl] at hv hb
      refine ⟨by rw [hv]; decide, fun h => ?_, (fun h => by cases h), fun _ => ⟨fun h => ?_, fun _ => hv, fun h => ?_⟩⟩
      · rw [hb] at h; cases h
      · rw [hb] at h; cases h
      · rw [Bool.and_eq_true, decide_eq_true_eq, multB_iff] at h
        refine absurd (fun y hy => ?_) (lcmO_none (by decide) hz hl (m := m.natAbs) (by omega) (by omega) (Nat.one_dvd _))
        exact tmod_zero.1 (h.2 y hy).2
    | some l =>
      rw [hl] at hv hb
      obtain ⟨-, h2, h3, h4, h5⟩ := lcmO_some (by decide) (by decide) hz hl
      have hv' : lcmV zs = (l : Int) := hv
      refine ⟨by omega, fun _ x hx _ => ?_, (fun h => by cases h), fun _ => ⟨fun _ => by omega, fun h => ?_, fun h => ⟨hb, ?_⟩⟩⟩
      · rw [hv']; exact tmod_zero.2 (by simpa using h2 x hx)
      · rw [hb] at h; cases h
      · rw [Bool.and_eq_true, decide_eq_true_eq, multB_iff] at h
        rw [hv']
        refine tmod_zero.2 ?_
        have := h5 m.natAbs (Nat.one_dvd _) (fun y hy => tmod_zero.1 (h.2 y hy).2)
        simpa using this
  · have hv : lcmV zs = 0 := by unfold lcmV; rw [hz]; rfl
    have hb : lcmB zs = true := by unfold lcmB; rw [hz]; rfl
    refine ⟨by rw [hv]; decide, fun _ x hx h0 => ?_, fun _ => ⟨hb, hv⟩, (fun h => by cases h)⟩
    rw [hv]; exact tmod_zero.2 (Nat.dvd_zero _)
end Go.Proofs.Ytpaemaenefjajab
