/- Texts of one chain, laid one behind the other. -/
import Derived.RowKit
namespace Go.Proofs.Ytigodedloogbcaa
open Go.RowKit
def fitB (x : Int) : Bool := decide (-9223372036854775808 ≤ x ∧ x ≤ 9223372036854775807)
def fitV (x : Int) : Int := if fitB x then x else 0
theorem fitB_true {x : Int} : fitB x = true ↔ -9223372036854775808 ≤ x ∧ x ≤ 9223372036854775807 := by unfold fitB; exact decide_eq_true_iff
theorem fitB_false {x : Int} : fitB x = false ↔ ¬ (-9223372036854775808 ≤ x ∧ x ≤ 9223372036854775807) := by unfold fitB; exact decide_eq_false_iff_not
theorem fitB_yes {x : Int} (h : -9223372036854775808 ≤ x ∧ x ≤ 9223372036854775807) : fitB x = true := fitB_true.2 h
theorem fitB_no {x : Int} (h : ¬ (-9223372036854775808 ≤ x ∧ x ≤ 9223372036854775807)) : fitB x = false := fitB_false.2 h
theorem fitV_yes {x : Int} (h : -9223372036854775808 ≤ x ∧ x ≤ 9223372036854775807) : fitV x = x := by unfold fitV; rw [fitB_yes h]; rfl
theorem fitV_no {x : Int} (h : ¬ (-9223372036854775808 ≤ x ∧ x ≤ 9223372036854775807)) : fitV x = 0 := by unfold fitV; rw [fitB_no h]; rfl
/-! ### Rows of numbers -/
def nth (zs : List Int) (k : Nat) : Int := zs.getD k 0
def InR (zs : List Int) : Prop := ∀ k, -9223372036854775808 ≤ nth zs k ∧ nth zs k ≤ 9223372036854775807
theorem inR0 : InR [] := fun k => by
  have e : nth [] k = 0 := by simp [nth]
  rw [e]; decide
theorem drop_nth (zs : List Int) (k : Nat) (h : k < zs.length) : zs.drop k = nth zs k :: zs.drop (k + 1) := by
  rw [List.drop_eq_getElem_cons h]
  unfold nth
  rw [List.getD_eq_getElem?_getD, List.getElem?_eq_getElem h]
  rfl
theorem drop_end (zs : List Int) (k : Nat) (h : ¬ k < zs.length) : zs.drop k = [] := List.drop_eq_nil_of_le (by omega)
/-- The greatest common divisor of a row, from d on. -/
def gcdO (d : Nat) : List Int → Nat
  | [] => d
  | x :: xs => gcdO (Nat.gcd d x.natAbs) xs
def gcdV (zs : List Int) : Int := fitV (gcdO 0 zs : Nat)
def gcdB (zs : List Int) : Bool := fitB (gcdO 0 zs : Nat)
/-- One number against a row: what is left of it, and of the row. -/
def rowP (p : Nat) : List Nat → Nat
  | [] => p
  | q :: qs => rowP (p / Nat.gcd p q) qs
def rowQ (p : Nat) : List Nat → List Nat
  | [] => []
  | q :: qs => q / Nat.gcd p q :: rowQ (p / Nat.gcd p q) qs
/-- A row against a row. -/
def redP : List Nat → List Nat → List Nat
  | [], _ => []
  | p :: ps, qs => rowP p qs :: redP ps (rowQ p qs)
/-! ### One row -/
/-! ### Row against row -/
/-! ### The two changed about -/
/-! ### Equal products -/
def gg (n d : Int) : Nat := Nat.gcd n.natAbs d.natAbs
/-- Den is above 0, and nothing above 1 divides both. -/
def validB (n d : Int) : Bool := decide (0 < d) && decide (gg n d = 1)
theorem validB_true {n d : Int} : validB n d = true ↔ 0 < d ∧ gg n d = 1 := by simp [validB]
/-- n over d in lowest terms, d not 0: above, below. -/
def lowN (n d : Int) : Int := if d < 0 then -(n.tdiv (gg n d : Int)) else n.tdiv (gg n d : Int)
def lowD (n d : Int) : Int := if d < 0 then -(d.tdiv (gg n d : Int)) else d.tdiv (gg n d : Int)
def lowB (n d : Int) : Bool := fitB (lowN n d) && fitB (lowD n d)
/-- What New answers: above, below, the error. -/
def newN (n d : Int) : Int := if d = 0 then 0 else if lowB n d then lowN n d else 0
def newD (n d : Int) : Int := if d = 0 then 0 else if lowB n d then lowD n d else 0
def newE (n d : Int) : Int := if d = 0 then 20 else if lowB n d then 0 else 4
theorem new_zero (n : Int) : newN n 0 = 0 ∧ newD n 0 = 0 ∧ newE n 0 = 20 := ⟨by simp [newN], by simp [newD], by simp [newE]⟩
theorem new_yes {n d : Int} (hd : d ≠ 0) (h : lowB n d = true) : newN n d = lowN n d ∧ newD n d = lowD n d ∧ newE n d = 0 := by
  simp [newN, newD, newE, hd, h]
/-- A number and its quotient by what divides it. -/
theorem exact_quo {n : Int} {g : Nat} (hg : 1 ≤ g) (h : g ∣ n.natAbs) : ∃ p : Int, n = p * (g : Int) ∧ n.tdiv (g : Int) = p ∧ n / (g : Int) = p ∧ p.natAbs ≤ n.natAbs ∧ p.natAbs = n.natAbs / g ∧ (n < 0 ↔ p < 0) ∧ (n = 0 ↔ p = 0) := by
  have h' : (g : Int) ∣ n := Int.ofNat_dvd_left.2 h
  obtain ⟨p, hp⟩ := h'
  have hg0 : (g : Int) ≠ 0 := by omega
  have hp' : n = p * (g : Int) := by rw [hp, Int.mul_comm]
  have e1 : n.tdiv (g : Int) = p := by rw [hp']; exact Int.mul_tdiv_cancel p hg0
  have e2 : n / (g : Int) = p := by rw [hp']; exact Int.mul_ediv_cancel p hg0
  have e3 : n.natAbs = p.natAbs * g := by rw [hp', Int.natAbs_mul]; simp
  refine ⟨p, hp', e1, e2, ?_, ?_, ?_, ?_⟩
  · rw [e3]; exact Nat.le_mul_of_pos_right _ (by omega)
  · rw [e3, Nat.mul_div_cancel _ (by omega)]
  · constructor
    · intro h; rcases Int.lt_or_le p 0 with h1 | h1
      · exact h1
      · have := Int.mul_nonneg h1 (Int.natCast_nonneg g); omega
    · intro h; rw [hp']; exact Int.mul_neg_of_neg_of_pos h (by omega)
  · constructor
    · intro h
      rw [hp'] at h
      exact (Int.mul_eq_zero.1 h).resolve_right hg0
    · intro h; rw [hp', h, Int.zero_mul]
theorem gg_pos_right {n d : Int} (h : d ≠ 0) : 1 ≤ gg n d := Nat.gcd_pos_of_pos_right _ (by omega)
/-- What is left when the divisor is divided out: nothing in common. -/
theorem low_facts {n d : Int} (hd : d ≠ 0) : ∃ p q : Int, n = p * (gg n d : Int) ∧ d = q * (gg n d : Int) ∧ n.tdiv (gg n d : Int) = p ∧ d.tdiv (gg n d : Int) = q ∧ gg p q = 1 ∧ q ≠ 0 ∧ p.natAbs ≤ n.natAbs ∧ q.natAbs ≤ d.natAbs ∧ (d < 0 ↔ q < 0) ∧ p.natAbs = n.natAbs / gg n d ∧ q.natAbs = d.natAbs / gg n d ∧ (n < 0 ↔ p < 0) ∧ (n = 0 ↔ p = 0) := by
  have hg := gg_pos_right (n := n) hd
  obtain ⟨p, hp, tp, -, lp, ap, sp, zp⟩ := exact_quo (n := n) hg (Nat.gcd_dvd_left _ _)
  obtain ⟨q, hq, tq, -, lq, aq, sq, zq⟩ := exact_quo (n := d) hg (Nat.gcd_dvd_right _ _)
  refine ⟨p, q, hp, hq, tp, tq, ?_, fun h => hd (zq.2 h), lp, lq, sq, ap, aq, sp, zp⟩
  unfold gg at *
  rw [ap, aq]
  rw [Nat.gcd_div (Nat.gcd_dvd_left _ _) (Nat.gcd_dvd_right _ _)]
  exact Nat.div_self (by omega)
theorem gg_neg (p q : Int) : gg (-p) (-q) = gg p q := by simp [gg]
theorem low_valid {n d : Int} (hd : d ≠ 0) : validB (lowN n d) (lowD n d) = true ∧ lowN n d * d = n * lowD n d := by
  obtain ⟨p, q, hp, hq, tp, tq, hg, hq0, -, -, hs, -⟩ := low_facts (n := n) hd
  rw [validB_true]
  unfold lowN lowD
  rw [tp, tq]
  by_cases h : d < 0
  · rw [if_pos h, if_pos h]
    refine ⟨⟨by have := hs.1 h; omega, by rw [gg_neg]; exact hg⟩, ?_⟩
    rw [Int.neg_mul, Int.mul_neg]
    generalize (gg n d : Int) = g at *
    rw [hp, hq, Int.mul_comm q g, ← Int.mul_assoc]
  · rw [if_neg h, if_neg h]
    refine ⟨⟨by have : ¬ q < 0 := fun k => h (hs.2 k); omega, hg⟩, ?_⟩
    generalize (gg n d : Int) = g at *
    rw [hp, hq, Int.mul_comm q g, ← Int.mul_assoc]
/-- Two fractions in lowest terms that are worth the same are the same. -/
theorem valid_same {a b c d : Int} (h1 : validB a b = true) (h2 : validB c d = true) (h : a * d = c * b) : a = c ∧ b = d := by
  obtain ⟨hb, g1⟩ := validB_true.1 h1
  obtain ⟨hd, g2⟩ := validB_true.1 h2
  have e : a.natAbs * d.natAbs = c.natAbs * b.natAbs := by rw [← Int.natAbs_mul, ← Int.natAbs_mul, h]
  unfold gg at g1 g2
  have k1 : b.natAbs ∣ d.natAbs := by
    have : b.natAbs ∣ a.natAbs * d.natAbs := ⟨c.natAbs, by rw [e, Nat.mul_comm]⟩
    exact Nat.Coprime.dvd_of_dvd_mul_left (Nat.Coprime.symm g1) this
  have k2 : d.natAbs ∣ b.natAbs := by
    have : d.natAbs ∣ c.natAbs * b.natAbs := ⟨a.natAbs, by rw [← e, Nat.mul_comm]⟩
    exact Nat.Coprime.dvd_of_dvd_mul_left (Nat.Coprime.symm g2) this
  have k3 := Nat.dvd_antisymm k1 k2
  have k4 : b = d := by omega
  subst k4
  exact ⟨Int.eq_of_mul_eq_mul_right (by omega) h, rfl⟩
/-! ### Products -/
end Go.Proofs.Ytigodedloogbcaa
