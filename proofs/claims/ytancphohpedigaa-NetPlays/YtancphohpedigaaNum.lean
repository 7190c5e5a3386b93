/- Plain numbers: which whole numbers fit into 64 bits with a sign, and what wrapping round does to them. No program is named here. -/
import Derived.RowKit
namespace Go.Proofs.Ytancphohpedigaa
open Go.RowKit

def fitB (x : Int) : Bool := decide (-9223372036854775808 ≤ x ∧ x ≤ 9223372036854775807)
def fitV (x : Int) : Int := if fitB x then x else 0

theorem fitB_true {x : Int} : fitB x = true ↔ -9223372036854775808 ≤ x ∧ x ≤ 9223372036854775807 := by unfold fitB; exact decide_eq_true_iff
theorem fitB_false {x : Int} : fitB x = false ↔ ¬ (-9223372036854775808 ≤ x ∧ x ≤ 9223372036854775807) := by unfold fitB; exact decide_eq_false_iff_not
theorem fitB_yes {x : Int} (h : -9223372036854775808 ≤ x ∧ x ≤ 9223372036854775807) : fitB x = true := fitB_true.2 h
theorem fitB_no {x : Int} (h : ¬ (-9223372036854775808 ≤ x ∧ x ≤ 9223372036854775807)) : fitB x = false := fitB_false.2 h
theorem fitV_yes {x : Int} (h : -9223372036854775808 ≤ x ∧ x ≤ 9223372036854775807) : fitV x = x := by unfold fitV; rw [fitB_yes h]; rfl
theorem fitV_no {x : Int} (h : ¬ (-9223372036854775808 ≤ x ∧ x ≤ 9223372036854775807)) : fitV x = 0 := by unfold fitV; rw [fitB_no h]; rfl
theorem fitV_lo (x : Int) : -9223372036854775808 ≤ fitV x := by
  by_cases h : -9223372036854775808 ≤ x ∧ x ≤ 9223372036854775807
  · rw [fitV_yes h]; exact h.1
  · rw [fitV_no h]; decide
theorem fitV_hi (x : Int) : fitV x ≤ 9223372036854775807 := by
  by_cases h : -9223372036854775808 ≤ x ∧ x ≤ 9223372036854775807
  · rw [fitV_yes h]; exact h.2
  · rw [fitV_no h]; decide

/-- Dividing a wrapped product back shows whether it was wrapped. -/
theorem back_yes {a b : Int} (hb0 : b ≠ 0) (ha : -9223372036854775808 ≤ a ∧ a ≤ 9223372036854775807) (h : -9223372036854775808 ≤ a * b ∧ a * b ≤ 9223372036854775807) :
    wrap64 (a * b) = a * b ∧ wrap64 ((a * b).tdiv b) = a := by
  have e : (a * b).tdiv b = a := Int.mul_tdiv_cancel a hb0
  rw [e]
  constructor <;> (unfold wrap64; omega)
theorem back_no {a b : Int} (hb0 : b ≠ 0) (hb : -9223372036854775808 ≤ b ∧ b ≤ 9223372036854775807) (h : ¬ (-9223372036854775808 ≤ a * b ∧ a * b ≤ 9223372036854775807)) (hn : b ≠ -1)
    (ha : -9223372036854775808 ≤ a ∧ a ≤ 9223372036854775807) :
    wrap64 ((wrap64 (a * b)).tdiv b) ≠ a := by
  intro e
  have hw : ∃ k : Int, wrap64 (a * b) = a * b + 18446744073709551616 * k ∧ k ≠ 0 := by
    refine ⟨-((a * b + 9223372036854775808) / 18446744073709551616), ?_, ?_⟩
    · unfold wrap64; omega
    · omega
  obtain ⟨k, hk, hk0⟩ := hw
  have hr : -9223372036854775808 ≤ wrap64 (a * b) ∧ wrap64 (a * b) ≤ 9223372036854775807 := by unfold wrap64; omega
  generalize wrap64 (a * b) = p at *
  have hd := Int.mul_tdiv_add_tmod p b
  have hm : (p.tmod b).natAbs < b.natAbs := by
    rw [Int.natAbs_tmod]; exact Nat.mod_lt _ (by omega)
  have hq : (p.tdiv b).natAbs ≤ p.natAbs := by
    rw [Int.natAbs_tdiv]; exact Nat.div_le_self _ _
  generalize hq' : p.tdiv b = q at *
  generalize p.tmod b = r at *
  -- the quotient is within the range, unless it is the least number's by -1
  have hqa : q = a ∨ (q = 9223372036854775808 ∧ a = -9223372036854775808) := by
    unfold wrap64 at e; omega
  rcases hqa with rfl | ⟨hq8, _⟩
  · have hbq : b * q = q * b := Int.mul_comm _ _
    rw [hbq] at hd
    omega
  · -- q = 2^63: then |p| = 2^63 and b is -1 (or 1)
    have hp : p = -9223372036854775808 := by omega
    have hb2 : 2 ≤ b.natAbs ∨ b = 1 ∨ b = -1 := by omega
    rcases hb2 with h2 | h1 | h1
    · have : q.natAbs = p.natAbs / b.natAbs := by rw [← hq', Int.natAbs_tdiv]; rfl
      have h3 : p.natAbs / b.natAbs ≤ p.natAbs / 2 := Nat.div_le_div_left h2 (by decide)
      omega
    · subst h1; rw [Int.tdiv_one] at hq'; omega
    · exact hn h1

/-! ### Rows of numbers -/
def nth (zs : List Int) (k : Nat) : Int := zs.getD k 0
def InR (zs : List Int) : Prop := ∀ k, -9223372036854775808 ≤ nth zs k ∧ nth zs k ≤ 9223372036854775807
theorem inR0 : InR [] := fun k => by
  have e : nth [] k = 0 := by simp [nth]
  rw [e]; decide
theorem drop_nth (zs : List Int) (k : Nat) (h : k < zs.length) : zs.drop k = nth zs k :: zs.drop (k + 1) := by
  rw [List.drop_eq_getElem_cons h]
  unfold nth
  rw [List.getD_eq_getElem?_getD, List.getElem?_eq_getElem h]
  rfl
theorem drop_end (zs : List Int) (k : Nat) (h : ¬ k < zs.length) : zs.drop k = [] := List.drop_eq_nil_of_le (by omega)

/-- Sums from the left to the right: none, where one on the way does not fit. -/
def sumO (s : Int) : List Int → Option Int
  | [] => some s
  | x :: xs => if fitB (s + x) then sumO (s + x) xs else none
theorem sumO_cons (s x : Int) (xs : List Int) : sumO s (x :: xs) = if fitB (s + x) then sumO (s + x) xs else none := rfl

/-- The greatest common divisor of a row, from d on. -/
def gcdO (d : Nat) : List Int → Nat
  | [] => d
  | x :: xs => gcdO (Nat.gcd d x.natAbs) xs

/-- Is a 0 in the row? -/
def zeroB : List Int → Bool
  | [] => false
  | x :: xs => x == 0 || zeroB xs

/-- The least common multiple of a row, from m on: none, where it does not fit. -/
def lcmO (m : Nat) : List Int → Option Nat
  | [] => some m
  | x :: xs => if fitB (Nat.lcm m x.natAbs : Nat) then lcmO (Nat.lcm m x.natAbs) xs else none

/-- The products of two rows, added up. -/
def dotO (s : Int) : List Int → List Int → Option Int
  | x :: xs, y :: ys => if fitB (x * y) then (if fitB (s + x * y) then dotO (s + x * y) xs ys else none) else none
  | _, _ => some s
theorem zeroB_nth {zs : List Int} (h : zeroB zs = false) (k : Nat) (hk : k < zs.length) : nth zs k ≠ 0 := by
  induction zs generalizing k with
  | nil => simp at hk
  | cons x xs ih =>
    rw [zeroB, Bool.or_eq_false_iff] at h
    cases k with
    | zero => simpa [nth] using h.1
    | succ k => exact ih h.2 k (by simpa using hk)
theorem lcm_least {x : Nat} {y : Int} (hx : 1 ≤ x) (hy : y = -9223372036854775808) : fitB (Nat.lcm x y.natAbs : Nat) = false := by
  apply fitB_no
  have e : y.natAbs = 9223372036854775808 := by omega
  rw [e]
  have h1 : 9223372036854775808 ∣ Nat.lcm x 9223372036854775808 := Nat.dvd_lcm_right _ _
  have h2 : 0 < Nat.lcm x 9223372036854775808 := Nat.lcm_pos (by omega) (by decide)
  have h3 := Nat.le_of_dvd h2 h1
  omega
theorem lcm_by {x s : Nat} (hx : 1 ≤ x) (hs : 1 ≤ s) : 1 ≤ Nat.gcd s x ∧ x / Nat.gcd s x * s = Nat.lcm x s ∧ 1 ≤ x / Nat.gcd s x ∧ 1 ≤ Nat.lcm x s := by
  have hg : 0 < Nat.gcd s x := Nat.gcd_pos_of_pos_left _ (by omega)
  refine ⟨hg, ?_, ?_, Nat.lcm_pos (by omega) (by omega)⟩
  · rw [Nat.lcm, Nat.gcd_comm x s, Nat.div_mul_right_comm (Nat.gcd_dvd_right s x)]
  · exact Nat.div_pos (Nat.le_of_dvd (by omega) (Nat.gcd_dvd_right s x)) hg
def lcmV (zs : List Int) : Int := if zeroB zs then 0 else ((lcmO 1 zs).getD 0 : Nat)
def lcmB (zs : List Int) : Bool := zeroB zs || (lcmO 1 zs).isSome
def sumV (zs : List Int) : Int := (sumO 0 zs).getD 0
def sumB (zs : List Int) : Bool := (sumO 0 zs).isSome
def gcdV (zs : List Int) : Int := fitV (gcdO 0 zs : Nat)
def gcdB (zs : List Int) : Bool := fitB (gcdO 0 zs : Nat)
def dotV (xs ys : List Int) : Int := if xs.length = ys.length then (dotO 0 xs ys).getD 0 else 0
def dotB (xs ys : List Int) : Bool := decide (xs.length = ys.length) && (dotO 0 xs ys).isSome
end Go.Proofs.Ytancphohpedigaa
