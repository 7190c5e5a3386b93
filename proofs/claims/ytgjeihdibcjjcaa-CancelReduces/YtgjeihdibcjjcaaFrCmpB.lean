/- What frac's Cmp answers. -/
import Derived.Test.YtgjeihdibcjjcaaFrCmp
namespace Go.Proofs.Ytgjeihdibcjjcaa
open Go.ChangeShapes Go.WideShapes Go.ChangeAt Go.RowKit

theorem words_unlike {x y : Nat} (h : x / 18446744073709551616 ≠ y / 18446744073709551616) : cmpI ((x / 18446744073709551616 : Nat) : Int) ((y / 18446744073709551616 : Nat) : Int) = cmpI (x : Int) (y : Int) := by
  rcases Nat.lt_trichotomy x y with k | k | k
  · rw [cmpI_lt (by omega), cmpI_lt (by omega)]
  · exact absurd (by rw [k]) h
  · rw [cmpI_gt (by omega), cmpI_gt (by omega)]
theorem words_like {x y : Nat} (h : x / 18446744073709551616 = y / 18446744073709551616) : cmpI ((x % 18446744073709551616 : Nat) : Int) ((y % 18446744073709551616 : Nat) : Int) = cmpI (x : Int) (y : Int) := by
  rcases Nat.lt_trichotomy x y with k | k | k
  · rw [cmpI_lt (by omega), cmpI_lt (by omega)]
  · rw [cmpI_eq (by omega), cmpI_eq (by omega)]
  · rw [cmpI_gt (by omega), cmpI_gt (by omega)]

def cmpE (a b c d : Int) : Int := if validB a b && validB c d then 0 else 1
def cmpV (a b c d : Int) : Int := if validB a b && validB c d then cmpI (a * d) (c * b) else 0

/-- The order of two fractions, by their signs first. -/
theorem cmp_signs {a b c d : Int} (hb : 0 < b) (hd : 0 < d) (h : cmpI (cmpI a 0) (cmpI c 0) ≠ 0) : cmpI (cmpI a 0) (cmpI c 0) = cmpI (a * d) (c * b) := by
  have pos : ∀ x y : Int, 0 < x → 0 < y → 0 < x * y := fun x y hx hy => Int.mul_pos hx hy
  have neg : ∀ x y : Int, x < 0 → 0 < y → x * y < 0 := fun x y hx hy => Int.mul_neg_of_neg_of_pos hx hy
  rcases Int.lt_trichotomy a 0 with ka | ka | ka <;> rcases Int.lt_trichotomy c 0 with kc | kc | kc
  · rw [cmpI_lt ka, cmpI_lt kc] at h; exact absurd (cmpI_eq rfl) h
  · subst kc; rw [cmpI_lt ka, cmpI_eq rfl, cmpI_lt (by decide), Int.zero_mul, cmpI_lt (neg _ _ ka hd)]
  · rw [cmpI_lt ka, cmpI_gt kc, cmpI_lt (by decide), cmpI_lt (by have := neg _ _ ka hd; have := pos _ _ kc hb; omega)]
  · subst ka; rw [cmpI_lt kc, cmpI_eq rfl, cmpI_gt (by decide), Int.zero_mul, cmpI_gt (neg _ _ kc hb)]
  · subst ka; subst kc; exact absurd (cmpI_eq rfl) h
  · subst ka; rw [cmpI_gt kc, cmpI_eq rfl, cmpI_lt (by decide), Int.zero_mul, cmpI_lt (pos _ _ kc hb)]
  · rw [cmpI_gt ka, cmpI_lt kc, cmpI_gt (by decide), cmpI_gt (by have := pos _ _ ka hd; have := neg _ _ kc hb; omega)]
  · subst kc; rw [cmpI_gt ka, cmpI_eq rfl, cmpI_gt (by decide), Int.zero_mul, cmpI_gt (pos _ _ ka hd)]
  · rw [cmpI_gt ka, cmpI_gt kc] at h; exact absurd (cmpI_eq rfl) h
theorem cmp_sizes {a b c d : Int} (hb : 0 < b) (hd : 0 < d) (h : cmpI (cmpI a 0) (cmpI c 0) = 0) : cmpI a 0 * cmpI ((a.natAbs * d.natAbs : Nat) : Int) ((c.natAbs * b.natAbs : Nat) : Int) = cmpI (a * d) (c * b) := by
  have ed : ((d.natAbs : Nat) : Int) = d := by omega
  have eb : ((b.natAbs : Nat) : Int) = b := by omega
  rw [Int.natCast_mul, Int.natCast_mul, ed, eb]
  rcases Int.lt_trichotomy a 0 with ka | ka | ka <;> rcases Int.lt_trichotomy c 0 with kc | kc | kc
  · have ea : ((a.natAbs : Nat) : Int) = -a := by omega
    have ec : ((c.natAbs : Nat) : Int) = -c := by omega
    rw [ea, ec, Int.neg_mul, Int.neg_mul, cmpI_lt ka]
    rcases Int.lt_trichotomy (a * d) (c * b) with k | k | k
    · rw [cmpI_gt (by omega), cmpI_lt k]; rfl
    · rw [cmpI_eq (by omega), cmpI_eq k]; rfl
    · rw [cmpI_lt (by omega), cmpI_gt k]; rfl
  · rw [cmpI_lt ka, kc] at h; exact absurd h (by decide)
  · rw [cmpI_lt ka, cmpI_gt kc] at h; exact absurd h (by decide)
  · rw [ka, cmpI_lt kc] at h; exact absurd h (by decide)
  · subst ka; subst kc; rw [Int.zero_mul, Int.zero_mul, cmpI_eq rfl, Int.zero_mul]
  · rw [ka, cmpI_gt kc] at h; exact absurd h (by decide)
  · rw [cmpI_gt ka, cmpI_lt kc] at h; exact absurd h (by decide)
  · rw [cmpI_gt ka, kc] at h; exact absurd h (by decide)
  · have ea : ((a.natAbs : Nat) : Int) = a := by omega
    have ec : ((c.natAbs : Nat) : Int) = c := by omega
    rw [ea, ec, cmpI_gt ka, Int.one_mul]
theorem cmpI_cases (x y : Int) : cmpI x y = -1 ∨ cmpI x y = 0 ∨ cmpI x y = 1 := by
  rcases Int.lt_trichotomy x y with k | k | k
  · exact .inl (cmpI_lt k)
  · exact .inr (.inl (cmpI_eq k))
  · exact .inr (.inr (cmpI_gt k))

end Go.Proofs.Ytgjeihdibcjjcaa
