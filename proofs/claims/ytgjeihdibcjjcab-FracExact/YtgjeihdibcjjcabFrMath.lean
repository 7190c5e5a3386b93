/- Plain fractions: pairs of whole numbers, their lowest terms, products, order and least scale. No program is named here. -/
import Derived.Test.YtgjeihdibcjjcabNum
namespace Go.Proofs.Ytgjeihdibcjjcab
open Go.RowKit

def gg (n d : Int) : Nat := Nat.gcd n.natAbs d.natAbs
/-- Den is above 0, and nothing above 1 divides both. -/
def validB (n d : Int) : Bool := decide (0 < d) && decide (gg n d = 1)
theorem validB_true {n d : Int} : validB n d = true ↔ 0 < d ∧ gg n d = 1 := by simp [validB]

/-- n over d in lowest terms, d not 0: above, below. -/
def lowN (n d : Int) : Int := if d < 0 then -(n.tdiv (gg n d : Int)) else n.tdiv (gg n d : Int)
def lowD (n d : Int) : Int := if d < 0 then -(d.tdiv (gg n d : Int)) else d.tdiv (gg n d : Int)
def lowB (n d : Int) : Bool := fitB (lowN n d) && fitB (lowD n d)

/-- What New answers: above, below, the error. -/
def newN (n d : Int) : Int := if d = 0 then 0 else if lowB n d then lowN n d else 0
def newD (n d : Int) : Int := if d = 0 then 0 else if lowB n d then lowD n d else 0
def newE (n d : Int) : Int := if d = 0 then 20 else if lowB n d then 0 else 4

theorem new_zero (n : Int) : newN n 0 = 0 ∧ newD n 0 = 0 ∧ newE n 0 = 20 := ⟨by simp [newN], by simp [newD], by simp [newE]⟩
theorem new_yes {n d : Int} (hd : d ≠ 0) (h : lowB n d = true) : newN n d = lowN n d ∧ newD n d = lowD n d ∧ newE n d = 0 := by
  simp [newN, newD, newE, hd, h]
theorem new_no {n d : Int} (hd : d ≠ 0) (h : lowB n d = false) : newN n d = 0 ∧ newD n d = 0 ∧ newE n d = 4 := by
  simp [newN, newD, newE, hd, h]

/-- A number and its quotient by what divides it. -/
theorem exact_quo {n : Int} {g : Nat} (hg : 1 ≤ g) (h : g ∣ n.natAbs) : ∃ p : Int, n = p * (g : Int) ∧ n.tdiv (g : Int) = p ∧ n / (g : Int) = p ∧ p.natAbs ≤ n.natAbs ∧ p.natAbs = n.natAbs / g ∧ (n < 0 ↔ p < 0) ∧ (n = 0 ↔ p = 0) := by
  have h' : (g : Int) ∣ n := Int.ofNat_dvd_left.2 h
  obtain ⟨p, hp⟩ := h'
  have hg0 : (g : Int) ≠ 0 := by omega
  have hp' : n = p * (g : Int) := by rw [hp, Int.mul_comm]
  have e1 : n.tdiv (g : Int) = p := by rw [hp']; exact Int.mul_tdiv_cancel p hg0
  have e2 : n / (g : Int) = p := by rw [hp']; exact Int.mul_ediv_cancel p hg0
  have e3 : n.natAbs = p.natAbs * g := by rw [hp', Int.natAbs_mul]; simp
  refine ⟨p, hp', e1, e2, ?_, ?_, ?_, ?_⟩
  · rw [e3]; exact Nat.le_mul_of_pos_right _ (by omega)
  · rw [e3, Nat.mul_div_cancel _ (by omega)]
  · constructor
    · intro h; rcases Int.lt_or_le p 0 with h1 | h1
      · exact h1
      · have := Int.mul_nonneg h1 (Int.natCast_nonneg g); omega
    · intro h; rw [hp']; exact Int.mul_neg_of_neg_of_pos h (by omega)
  · constructor
    · intro h
      rw [hp'] at h
      exact (Int.mul_eq_zero.1 h).resolve_right hg0
    · intro h; rw [hp', h, Int.zero_mul]

theorem gg_pos_right {n d : Int} (h : d ≠ 0) : 1 ≤ gg n d := Nat.gcd_pos_of_pos_right _ (by omega)
theorem gg_comm (n d : Int) : gg n d = gg d n := Nat.gcd_comm _ _

/-- What is left when the divisor is divided out: nothing in common. -/
theorem low_facts {n d : Int} (hd : d ≠ 0) : ∃ p q : Int, n = p * (gg n d : Int) ∧ d = q * (gg n d : Int) ∧ n.tdiv (gg n d : Int) = p ∧ d.tdiv (gg n d : Int) = q ∧ gg p q = 1 ∧ q ≠ 0 ∧ p.natAbs ≤ n.natAbs ∧ q.natAbs ≤ d.natAbs ∧ (d < 0 ↔ q < 0) ∧ p.natAbs = n.natAbs / gg n d ∧ q.natAbs = d.natAbs / gg n d ∧ (n < 0 ↔ p < 0) ∧ (n = 0 ↔ p = 0) := by
  have hg := gg_pos_right (n := n) hd
  obtain ⟨p, hp, tp, -, lp, ap, sp, zp⟩ := exact_quo (n := n) hg (Nat.gcd_dvd_left _ _)
  obtain ⟨q, hq, tq, -, lq, aq, sq, zq⟩ := exact_quo (n := d) hg (Nat.gcd_dvd_right _ _)
  refine ⟨p, q, hp, hq, tp, tq, ?_, fun h => hd (zq.2 h), lp, lq, sq, ap, aq, sp, zp⟩
  unfold gg at *
  rw [ap, aq]
  rw [Nat.gcd_div (Nat.gcd_dvd_left _ _) (Nat.gcd_dvd_right _ _)]
  exact Nat.div_self (by omega)

theorem gg_neg (p q : Int) : gg (-p) (-q) = gg p q := by simp [gg]

theorem low_valid {n d : Int} (hd : d ≠ 0) : validB (lowN n d) (lowD n d) = true ∧ lowN n d * d = n * lowD n d := by
  obtain ⟨p, q, hp, hq, tp, tq, hg, hq0, -, -, hs, -⟩ := low_facts (n := n) hd
  rw [validB_true]
  unfold lowN lowD
  rw [tp, tq]
  by_cases h : d < 0
  · rw [if_pos h, if_pos h]
    refine ⟨⟨by have := hs.1 h; omega, by rw [gg_neg]; exact hg⟩, ?_⟩
    rw [Int.neg_mul, Int.mul_neg]
    generalize (gg n d : Int) = g at *
    rw [hp, hq, Int.mul_comm q g, ← Int.mul_assoc]
  · rw [if_neg h, if_neg h]
    refine ⟨⟨by have : ¬ q < 0 := fun k => h (hs.2 k); omega, hg⟩, ?_⟩
    generalize (gg n d : Int) = g at *
    rw [hp, hq, Int.mul_comm q g, ← Int.mul_assoc]

/-- What is in lowest terms stays as it is. -/
theorem low_same {n d : Int} (h : validB n d = true) : lowN n d = n ∧ lowD n d = d := by
  obtain ⟨h1, h2⟩ := validB_true.1 h
  unfold lowN lowD
  rw [if_neg (by omega), if_neg (by omega), h2]
  simp

/-- Two fractions in lowest terms that are worth the same are the same. -/
theorem valid_same {a b c d : Int} (h1 : validB a b = true) (h2 : validB c d = true) (h : a * d = c * b) : a = c ∧ b = d := by
  obtain ⟨hb, g1⟩ := validB_true.1 h1
  obtain ⟨hd, g2⟩ := validB_true.1 h2
  have e : a.natAbs * d.natAbs = c.natAbs * b.natAbs := by rw [← Int.natAbs_mul, ← Int.natAbs_mul, h]
  unfold gg at g1 g2
  have k1 : b.natAbs ∣ d.natAbs := by
    have : b.natAbs ∣ a.natAbs * d.natAbs := ⟨c.natAbs, by rw [e, Nat.mul_comm]⟩
    exact Nat.Coprime.dvd_of_dvd_mul_left (Nat.Coprime.symm g1) this
  have k2 : d.natAbs ∣ b.natAbs := by
    have : d.natAbs ∣ c.natAbs * b.natAbs := ⟨a.natAbs, by rw [← e, Nat.mul_comm]⟩
    exact Nat.Coprime.dvd_of_dvd_mul_left (Nat.Coprime.symm g2) this
  have k3 := Nat.dvd_antisymm k1 k2
  have k4 : b = d := by omega
  subst k4
  exact ⟨Int.eq_of_mul_eq_mul_right (by omega) h, rfl⟩

/-! ### Products -/
def twoN (a b c d : Int) : Int := a.tdiv (gg a d : Int) * c.tdiv (gg c b : Int)
def twoD (a b c d : Int) : Int := b.tdiv (gg c b : Int) * d.tdiv (gg a d : Int)
def twoB (a b c d : Int) : Bool := fitB (twoN a b c d) && fitB (twoD a b c d)

/-- The product of some fractions, from a over b on. -/
def mulO (a b : Int) : List (Int × Int) → Option (Int × Int)
  | [] => some (a, b)
  | f :: fs => if twoB a b f.1 f.2 then mulO (twoN a b f.1 f.2) (twoD a b f.1 f.2) fs else none
def allB : List (Int × Int) → Bool
  | [] => true
  | f :: fs => validB f.1 f.2 && allB fs
def mulN (fs : List (Int × Int)) : Int := if allB fs then ((mulO 1 1 fs).getD (0, 0)).1 else 0
def mulD (fs : List (Int × Int)) : Int := if allB fs then ((mulO 1 1 fs).getD (0, 0)).2 else 0
def mulE (fs : List (Int × Int)) : Int := if allB fs then (if (mulO 1 1 fs).isSome then 0 else 4) else 1

/-- What the product of two in lowest terms is: in lowest terms, and exact. -/
theorem two_facts {a b c d : Int} (h1 : validB a b = true) (h2 : validB c d = true) :
    ∃ p q r s g h : Int, 0 < g ∧ 0 < h ∧ a = p * g ∧ d = s * g ∧ c = r * h ∧ b = q * h ∧ a.tdiv (gg a d : Int) = p ∧ d.tdiv (gg a d : Int) = s ∧ c.tdiv (gg c b : Int) = r ∧ b.tdiv (gg c b : Int) = q ∧
      0 < q ∧ 0 < s ∧ (gg a d : Int) = g ∧ (gg c b : Int) = h ∧ gg (p * r) (q * s) = 1 ∧ p.natAbs ≤ a.natAbs ∧ s ≤ d ∧ r.natAbs ≤ c.natAbs ∧ q ≤ b := by
  obtain ⟨hb, g1⟩ := validB_true.1 h1
  obtain ⟨hd, g2⟩ := validB_true.1 h2
  have ha := gg_pos_right (n := a) (d := d) (by omega)
  have hc := gg_pos_right (n := c) (d := b) (by omega)
  obtain ⟨p, s, hp, hs, tp, ts, cps, hs0, lp, ls, ss, -⟩ := low_facts (n := a) (d := d) (by omega)
  obtain ⟨r, q, hr, hq, tr, tq, crq, hq0, lr, lq, sq, -⟩ := low_facts (n := c) (d := b) (by omega)
  have hs' : 0 < s := by have : ¬ s < 0 := fun k => by have := ss.2 k; omega
                         omega
  have hq' : 0 < q := by have : ¬ q < 0 := fun k => by have := sq.2 k; omega
                         omega
  refine ⟨p, q, r, s, gg a d, gg c b, by omega, by omega, hp, hs, hr, hq, tp, ts, tr, tq, hq', hs', rfl, rfl, ?_, lp, by omega, lr, by omega⟩
  -- nothing in common: p with s, r with q by division; p with q, r with s as they were
  unfold gg at *
  have e1 : a.natAbs = p.natAbs * Nat.gcd a.natAbs d.natAbs := by
    have := congrArg Int.natAbs hp; rw [Int.natAbs_mul] at this; simpa using this
  have e2 : d.natAbs = s.natAbs * Nat.gcd a.natAbs d.natAbs := by
    have := congrArg Int.natAbs hs; rw [Int.natAbs_mul] at this; simpa using this
  have e3 : c.natAbs = r.natAbs * Nat.gcd c.natAbs b.natAbs := by
    have := congrArg Int.natAbs hr; rw [Int.natAbs_mul] at this; simpa using this
  have e4 : b.natAbs = q.natAbs * Nat.gcd c.natAbs b.natAbs := by
    have := congrArg Int.natAbs hq; rw [Int.natAbs_mul] at this; simpa using this
  have c1 : Nat.Coprime p.natAbs q.natAbs := by
    have k1 : Nat.Coprime p.natAbs b.natAbs := Nat.Coprime.coprime_dvd_left ⟨_, e1⟩ g1
    exact Nat.Coprime.coprime_dvd_right ⟨_, e4⟩ k1
  have c2 : Nat.Coprime r.natAbs s.natAbs := by
    have k1 : Nat.Coprime r.natAbs d.natAbs := Nat.Coprime.coprime_dvd_left ⟨_, e3⟩ g2
    exact Nat.Coprime.coprime_dvd_right ⟨_, e2⟩ k1
  rw [Int.natAbs_mul, Int.natAbs_mul]
  exact Nat.Coprime.mul_left (Nat.Coprime.mul_right c1 cps) (Nat.Coprime.mul_right crq c2)

theorem two_valid {a b c d : Int} (h1 : validB a b = true) (h2 : validB c d = true) : validB (twoN a b c d) (twoD a b c d) = true ∧ twoN a b c d * (b * d) = (a * c) * twoD a b c d := by
  obtain ⟨p, q, r, s, g, h, hg, hh, ea, ed, ec, eb, tp, ts, tr, tq, hq, hs, -, -, hc, -⟩ := two_facts h1 h2
  unfold twoN twoD
  rw [tp, ts, tr, tq, validB_true]
  refine ⟨⟨Int.mul_pos hq hs, hc⟩, ?_⟩
  rw [ea, ed, ec, eb]
  simp only [Int.mul_comm, Int.mul_left_comm]

theorem two_one {c d : Int} (h : validB c d = true) : twoN 1 1 c d = c ∧ twoD 1 1 c d = d := by
  have h1 : validB 1 1 = true := by decide
  obtain ⟨k1, k2⟩ := two_valid h1 h
  have := valid_same k1 h (by rw [Int.one_mul, Int.one_mul] at k2; exact k2)
  exact this

theorem two_comm (a b c d : Int) : twoN a b c d = twoN c d a b ∧ twoD a b c d = twoD c d a b := by
  unfold twoN twoD
  exact ⟨Int.mul_comm _ _, Int.mul_comm _ _⟩

theorem mulO_valid {a b : Int} {fs : List (Int × Int)} (h : validB a b = true) (hf : allB fs = true) {x : Int × Int} (hx : mulO a b fs = some x) : validB x.1 x.2 = true := by
  induction fs generalizing a b with
  | nil => cases hx; exact h
  | cons f fs ih =>
    simp only [allB, Bool.and_eq_true] at hf
    rw [mulO] at hx
    split at hx
    · exact ih (two_valid h hf.1).1 hf.2 hx
    · cases hx
end Go.Proofs.Ytgjeihdibcjjcab
