/- What is plain of FracExact: the product of a row is the quotient of the products, and a row's last factor may come by itself. -/
import Derived.Test.YtgjeihdibcjjcabFrMul
namespace Go.Proofs.Ytgjeihdibcjjcab

def prodN : List (Int × Int) → Int
  | [] => 1
  | f :: fs => f.1 * prodN fs
def prodD : List (Int × Int) → Int
  | [] => 1
  | f :: fs => f.2 * prodD fs

theorem mulO_exact {fs : List (Int × Int)} {x y p q : Int} (hv : validB x y = true) (hall : allB fs = true) (h : mulO x y fs = some (p, q)) : validB p q = true ∧ p * (y * prodD fs) = (x * prodN fs) * q := by
  induction fs generalizing x y with
  | nil => cases h; exact ⟨hv, by simp [prodD, prodN]⟩
  | cons f fs ih =>
    rw [allB, Bool.and_eq_true] at hall
    rw [mulO] at h
    split at h
    · obtain ⟨k1, k2⟩ := two_valid hv hall.1
      obtain ⟨i1, i2⟩ := ih k1 hall.2 h
      refine ⟨i1, ?_⟩
      have hY : twoD x y f.1 f.2 ≠ 0 := by have := valid_pos k1; omega
      apply Int.eq_of_mul_eq_mul_left hY
      rw [prodD, prodN]
      generalize twoN x y f.1 f.2 = X at *
      generalize twoD x y f.1 f.2 = Y at *
      calc Y * (p * (y * (f.2 * prodD fs))) = (p * (Y * prodD fs)) * (y * f.2) := by ac_rfl
        _ = ((X * prodN fs) * q) * (y * f.2) := by rw [i2]
        _ = (X * (y * f.2)) * (prodN fs * q) := by ac_rfl
        _ = ((x * f.1) * Y) * (prodN fs * q) := by rw [k2]
        _ = Y * ((x * (f.1 * prodN fs)) * q) := by ac_rfl
    · cases h

theorem mulO_fits {fs : List (Int × Int)} {x y p q : Int} (hx : fitB x = true) (hy : fitB y = true) (h : mulO x y fs = some (p, q)) : fitB p = true ∧ fitB q = true := by
  induction fs generalizing x y with
  | nil => cases h; exact ⟨hx, hy⟩
  | cons f fs ih =>
    rw [mulO] at h
    split at h
    · rename_i hb
      unfold twoB at hb
      rw [Bool.and_eq_true] at hb
      exact ih hb.1 hb.2 h
    · cases h

theorem allB_append (fs gs : List (Int × Int)) : allB (fs ++ gs) = (allB fs && allB gs) := by
  induction fs with
  | nil => rfl
  | cons f fs ih => rw [List.cons_append, allB, allB, ih, Bool.and_assoc]

theorem mulO_snoc {fs : List (Int × Int)} {f : Int × Int} {x y p q : Int} (h : mulO x y (fs ++ [f]) = some (p, q)) : ∃ r s, mulO x y fs = some (r, s) ∧ mulO r s [f] = some (p, q) := by
  induction fs generalizing x y with
  | nil => exact ⟨x, y, rfl, h⟩
  | cons g fs ih =>
    rw [List.cons_append, mulO] at h
    rw [mulO]
    split at h
    · rename_i hb
      rw [if_pos hb]
      exact ih h
    · cases h

/-- All but the last, and then the last. -/
theorem mulO_init {fs : List (Int × Int)} {f : Int × Int} {p q : Int} (hall : allB (fs ++ [f]) = true) (h : mulO 1 1 (fs ++ [f]) = some (p, q)) :
    ∃ r s, mulO 1 1 fs = some (r, s) ∧ validB r s = true ∧ (fitB r = true ∧ fitB s = true) ∧ mulO 1 1 [(r, s), f] = some (p, q) := by
  obtain ⟨r, s, h1, h2⟩ := mulO_snoc h
  rw [allB_append, Bool.and_eq_true] at hall
  obtain ⟨hv, -⟩ := mulO_exact (x := 1) (y := 1) (by decide) hall.1 h1
  obtain ⟨f1, f2⟩ := mulO_fits (x := 1) (y := 1) (by decide) (by decide) h1
  refine ⟨r, s, h1, hv, ⟨f1, f2⟩, ?_⟩
  obtain ⟨t1, t2⟩ := two_one hv
  have hb : twoB 1 1 r s = true := by unfold twoB; rw [t1, t2, f1, f2]; rfl
  rw [mulO, if_pos hb, t1, t2]
  exact h2
end Go.Proofs.Ytgjeihdibcjjcab
