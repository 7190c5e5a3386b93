/- Texts of one chain, laid one behind the other. -/
import Derived.RowKit
namespace Go.Proofs.YtmnbapcbailcbaaGreat
open Go.RowKit
def fitB (x : Int) : Bool := decide (-9223372036854775808 ≤ x ∧ x ≤ 9223372036854775807)
def fitV (x : Int) : Int := if fitB x then x else 0
theorem fitB_true {x : Int} : fitB x = true ↔ -9223372036854775808 ≤ x ∧ x ≤ 9223372036854775807 := by unfold fitB; exact decide_eq_true_iff
theorem fitB_false {x : Int} : fitB x = false ↔ ¬ (-9223372036854775808 ≤ x ∧ x ≤ 9223372036854775807) := by unfold fitB; exact decide_eq_false_iff_not
theorem fitB_yes {x : Int} (h : -9223372036854775808 ≤ x ∧ x ≤ 9223372036854775807) : fitB x = true := fitB_true.2 h
theorem fitB_no {x : Int} (h : ¬ (-9223372036854775808 ≤ x ∧ x ≤ 9223372036854775807)) : fitB x = false := fitB_false.2 h
theorem fitV_yes {x : Int} (h : -9223372036854775808 ≤ x ∧ x ≤ 9223372036854775807) : fitV x = x := by unfold fitV; rw [fitB_yes h]; rfl
theorem fitV_no {x : Int} (h : ¬ (-9223372036854775808 ≤ x ∧ x ≤ 9223372036854775807)) : fitV x = 0 := by unfold fitV; rw [fitB_no h]; rfl
/-- Dividing a wrapped product back shows whether it was wrapped. -/
theorem back_yes {a b : Int} (hb0 : b ≠ 0) (ha : -9223372036854775808 ≤ a ∧ a ≤ 9223372036854775807) (h : -9223372036854775808 ≤ a * b ∧ a * b ≤ 9223372036854775807) :
    wrap64 (a * b) = a * b ∧ wrap64 ((a * b).tdiv b) = a := by
  have e : (a * b).tdiv b = a := Int.mul_tdiv_cancel a hb0
  rw [e]
  constructor <;> (unfold wrap64; omega)
theorem back_no {a b : Int} (hb0 : b ≠ 0) (hb : -9223372036854775808 ≤ b ∧ b ≤ 9223372036854775807) (h : ¬ (-9223372036854775808 ≤ a * b ∧ a * b ≤ 9223372036854775807)) (hn : b ≠ -1)
    (ha : -9223372036854775808 ≤ a ∧ a ≤ 9223372036854775807) :
    wrap64 ((wrap64 (a * b)).tdiv b) ≠ a := by
  intro e
  have hw : ∃ k : Int, wrap64 (a * b) = a * b + 18446744073709551616 * k ∧ k ≠ 0 := by
    refine ⟨-((a * b + 9223372036854775808) / 18446744073709551616), ?_, ?_⟩
    · unfold wrap64; omega
    · omega
  obtain ⟨k, hk, hk0⟩ := hw
  have hr : -9223372036854775808 ≤ wrap64 (a * b) ∧ wrap64 (a * b) ≤ 9223372036854775807 := by unfold wrap64; omega
  generalize wrap64 (a * b) = p at *
  have hd := Int.mul_tdiv_add_tmod p b
  have hm : (p.tmod b).natAbs < b.natAbs := by
    rw [Int.natAbs_tmod]; exact Nat.mod_lt _ (by omega)
  have hq : (p.tdiv b).natAbs ≤ p.natAbs := by
    rw [Int.natAbs_tdiv]; exact Nat.div_le_self _ _
  generalize hq' : p.tdiv b = q at *
  generalize p.tmod b = r at *
  -- the quotient is within the range, unless it is the least number's by -1
  have hqa : q = a ∨ (q = 9223372036854775808 ∧ a = -9223372036854775808) := by
    unfold wrap64 at e; omega
  rcases hqa with rfl | ⟨hq8, _⟩
  · have hbq : b * q = q * b := Int.mul_comm _ _
    rw [hbq] at hd
    omega
  · -- q = 2^63: then |p| = 2^63 and b is -1 (or 1)
    have hp : p = -9223372036854775808 := by omega
    have hb2 : 2 ≤ b.natAbs ∨ b = 1 ∨ b = -1 := by omega
    rcases hb2 with h2 | h1 | h1
    · have : q.natAbs = p.natAbs / b.natAbs := by rw [← hq', Int.natAbs_tdiv]; rfl
      have h3 : p.natAbs / b.natAbs ≤ p.natAbs / 2 := Nat.div_le_div_left h2 (by decide)
      omega
    · subst h1; rw [Int.tdiv_one] at hq'; omega
    · exact hn h1
/-! ### Rows of numbers -/
def nth (zs : List Int) (k : Nat) : Int := zs.getD k 0
def InR (zs : List Int) : Prop := ∀ k, -9223372036854775808 ≤ nth zs k ∧ nth zs k ≤ 9223372036854775807
theorem inR0 : InR [] := fun k => by
  have e : nth [] k = 0 := by simp [nth]
  rw [e]; decide
theorem drop_nth (zs : List Int) (k : Nat) (h : k < zs.length) : zs.drop k = nth zs k :: zs.drop (k + 1) := by
  rw [List.drop_eq_getElem_cons h]
  unfold nth
  rw [List.getD_eq_getElem?_getD, List.getElem?_eq_getElem h]
  rfl
theorem drop_end (zs : List Int) (k : Nat) (h : ¬ k < zs.length) : zs.drop k = [] := List.drop_eq_nil_of_le (by omega)
/-- The greatest common divisor of a row, from d on. -/
def gcdO (d : Nat) : List Int → Nat
  | [] => d
  | x :: xs => gcdO (Nat.gcd d x.natAbs) xs
/-- Is a 0 in the row? -/
def zeroB : List Int → Bool
  | [] => false
  | x :: xs => x == 0 || zeroB xs
/-- The least common multiple of a row, from m on: none, where it does not fit. -/
def lcmO (m : Nat) : List Int → Option Nat
  | [] => some m
  | x :: xs => if fitB (Nat.lcm m x.natAbs : Nat) then lcmO (Nat.lcm m x.natAbs) xs else none
theorem zeroB_nth {zs : List Int} (h : zeroB zs = false) (k : Nat) (hk : k < zs.length) : nth zs k ≠ 0 := by
  induction zs generalizing k with
  | nil => simp at hk
  | cons x xs ih =>
    rw [zeroB, Bool.or_eq_false_iff] at h
    cases k with
    | zero => simpa [nth] using h.1
    | succ k => exact ih h.2 k (by simpa using hk)
theorem lcm_least {x : Nat} {y : Int} (hx : 1 ≤ x) (hy : y = -9223372036854775808) : fitB (Nat.lcm x y.natAbs : Nat) = false := by
  apply fitB_no
  have e : y.natAbs = 9223372036854775808 := by omega
  rw [e]
  have h1 : 9223372036854775808 ∣ Nat.lcm x 9223372036854775808 := Nat.dvd_lcm_right _ _
  have h2 : 0 < Nat.lcm x 9223372036854775808 := Nat.lcm_pos (by omega) (by decide)
  have h3 := Nat.le_of_dvd h2 h1
  omega
theorem lcm_by {x s : Nat} (hx : 1 ≤ x) (hs : 1 ≤ s) : 1 ≤ Nat.gcd s x ∧ x / Nat.gcd s x * s = Nat.lcm x s ∧ 1 ≤ x / Nat.gcd s x ∧ 1 ≤ Nat.lcm x s := by
  have hg : 0 < Nat.gcd s x := Nat.gcd_pos_of_pos_left _ (by omega)
  refine ⟨hg, ?_, ?_, Nat.lcm_pos (by omega) (by omega)⟩
  · rw [Nat.lcm, Nat.gcd_comm x s, Nat.div_mul_right_comm (Nat.gcd_dvd_right s x)]
  · exact Nat.div_pos (Nat.le_of_dvd (by omega) (Nat.gcd_dvd_right s x)) hg
def lcmV (zs : List Int) : Int := if zeroB zs then 0 else ((lcmO 1 zs).getD 0 : Nat)
def lcmB (zs : List Int) : Bool := zeroB zs || (lcmO 1 zs).isSome
def gcdV (zs : List Int) : Int := fitV (gcdO 0 zs : Nat)
def gcdB (zs : List Int) : Bool := fitB (gcdO 0 zs : Nat)
/-- One number against a row: what is left of it, and of the row. -/
def rowP (p : Nat) : List Nat → Nat
  | [] => p
  | q :: qs => rowP (p / Nat.gcd p q) qs
def rowQ (p : Nat) : List Nat → List Nat
  | [] => []
  | q :: qs => q / Nat.gcd p q :: rowQ (p / Nat.gcd p q) qs
/-- A row against a row. -/
def redP : List Nat → List Nat → List Nat
  | [], _ => []
  | p :: ps, qs => rowP p qs :: redP ps (rowQ p qs)
def redQ : List Nat → List Nat → List Nat
  | [], qs => qs
  | p :: ps, qs => redQ ps (rowQ p qs)
def prodN' : List Nat → Nat
  | [] => 1
  | p :: ps => p * prodN' ps
/-- All are above 0. -/
def Pos (ps : List Nat) : Prop := ∀ p ∈ ps, 1 ≤ p
theorem pos_nil : Pos [] := fun _ h => by cases h
theorem pos_cons {p : Nat} {ps : List Nat} : Pos (p :: ps) ↔ 1 ≤ p ∧ Pos ps := by
  unfold Pos; simp
theorem quo_pos {p q : Nat} (hp : 1 ≤ p) : 1 ≤ p / Nat.gcd p q := Nat.div_pos (Nat.le_of_dvd hp (Nat.gcd_dvd_left p q)) (Nat.gcd_pos_of_pos_left q hp)
theorem quo_pos_right {p q : Nat} (hq : 1 ≤ q) : 1 ≤ q / Nat.gcd p q := Nat.div_pos (Nat.le_of_dvd hq (Nat.gcd_dvd_right p q)) (Nat.gcd_pos_of_pos_right p hq)
theorem quo_dvd (p q : Nat) : p / Nat.gcd p q ∣ p := Nat.div_dvd_of_dvd (Nat.gcd_dvd_left p q)
theorem quo_dvd_right (p q : Nat) : q / Nat.gcd p q ∣ q := Nat.div_dvd_of_dvd (Nat.gcd_dvd_right p q)
theorem quo_cop {p q : Nat} (hp : 1 ≤ p) : Nat.gcd (p / Nat.gcd p q) (q / Nat.gcd p q) = 1 := by
  rw [Nat.gcd_div (Nat.gcd_dvd_left p q) (Nat.gcd_dvd_right p q), Nat.div_self (Nat.gcd_pos_of_pos_left q hp)]
theorem quo_mul (p q : Nat) : p / Nat.gcd p q * Nat.gcd p q = p := Nat.div_mul_cancel (Nat.gcd_dvd_left p q)
theorem quo_mul_right (p q : Nat) : q / Nat.gcd p q * Nat.gcd p q = q := Nat.div_mul_cancel (Nat.gcd_dvd_right p q)
theorem cop_dvd {a b c d : Nat} (h : Nat.gcd c d = 1) (h1 : a ∣ c) (h2 : b ∣ d) : Nat.gcd a b = 1 := by
  have h3 : Nat.gcd a b ∣ Nat.gcd c d := Nat.dvd_gcd (Nat.dvd_trans (Nat.gcd_dvd_left a b) h1) (Nat.dvd_trans (Nat.gcd_dvd_right a b) h2)
  rw [h] at h3
  exact Nat.dvd_one.1 h3
/-! ### One row -/
theorem rowQ_len (p : Nat) (qs : List Nat) : (rowQ p qs).length = qs.length := by
  induction qs generalizing p with
  | nil => rfl
  | cons q qs ih => simp [rowQ, ih]
theorem rowP_dvd (p : Nat) (qs : List Nat) : rowP p qs ∣ p := by
  induction qs generalizing p with
  | nil => exact Nat.dvd_refl p
  | cons q qs ih => exact Nat.dvd_trans (ih _) (quo_dvd p q)
theorem rowP_pos {p : Nat} {qs : List Nat} (h : 1 ≤ p) : 1 ≤ rowP p qs := by
  rcases Nat.eq_zero_or_pos (rowP p qs) with e | e
  · have := rowP_dvd p qs
    rw [e] at this
    have := Nat.eq_zero_of_zero_dvd this
    omega
  · exact e
theorem rowQ_pos {p : Nat} {qs : List Nat} (h : Pos qs) : Pos (rowQ p qs) := by
  induction qs generalizing p with
  | nil => exact h
  | cons q qs ih =>
    obtain ⟨h1, h2⟩ := pos_cons.1 h
    exact pos_cons.2 ⟨quo_pos_right h1, ih h2⟩
/-- Place by place, the one divides the other. -/
def Divs : List Nat → List Nat → Prop
  | [], [] => True
  | a :: as, b :: bs => a ∣ b ∧ Divs as bs
  | _, _ => False
theorem divs_refl (as : List Nat) : Divs as as := by
  induction as with
  | nil => trivial
  | cons a as ih => exact ⟨Nat.dvd_refl a, ih⟩
theorem divs_trans {as bs cs : List Nat} (h1 : Divs as bs) (h2 : Divs bs cs) : Divs as cs := by
  induction as generalizing bs cs with
  | nil =>
    cases bs with
    | nil => exact h2
    | cons b bs => exact h1.elim
  | cons a as ih =>
    cases bs with
    | nil => exact h1.elim
    | cons b bs =>
      cases cs with
      | nil => exact h2.elim
      | cons c cs => exact ⟨Nat.dvd_trans h1.1 h2.1, ih h1.2 h2.2⟩
theorem rowQ_divs (p : Nat) (qs : List Nat) : Divs (rowQ p qs) qs := by
  induction qs generalizing p with
  | nil => trivial
  | cons q qs ih => exact ⟨quo_dvd_right p q, ih _⟩
/-- What is left of one number has nothing in common with what is left of the row. -/
theorem row_cop {p : Nat} {qs : List Nat} (hp : 1 ≤ p) : ∀ q ∈ rowQ p qs, Nat.gcd (rowP p qs) q = 1 := by
  induction qs generalizing p with
  | nil => intro q h; cases h
  | cons q qs ih =>
    intro r hr
    rcases List.mem_cons.1 hr with rfl | hr
    · exact cop_dvd (quo_cop (q := q) hp) (rowP_dvd _ _) (Nat.dvd_refl _)
    · exact ih (quo_pos hp) r hr
theorem row_prod (p : Nat) (qs : List Nat) : p * prodN' (rowQ p qs) = rowP p qs * prodN' qs := by
  induction qs generalizing p with
  | nil => rfl
  | cons q qs ih =>
    show p * (q / Nat.gcd p q * prodN' (rowQ (p / Nat.gcd p q) qs)) = rowP (p / Nat.gcd p q) qs * (q * prodN' qs)
    have h := ih (p / Nat.gcd p q)
    have e1 := quo_mul p q
    have e2 := quo_mul_right p q
    generalize Nat.gcd p q = g at *
    generalize p / g = a at *
    generalize q / g = b at *
    rw [← e1, ← e2]
    calc a * g * (b * prodN' (rowQ a qs)) = (a * prodN' (rowQ a qs)) * (b * g) := by
            simp only [Nat.mul_comm, Nat.mul_left_comm, Nat.mul_assoc]
      _ = (rowP a qs * prodN' qs) * (b * g) := by rw [h]
      _ = rowP a qs * (b * g * prodN' qs) := by
            rw [Nat.mul_assoc, Nat.mul_comm (prodN' qs)]
/-! ### Row against row -/
theorem redP_len (ps qs : List Nat) : (redP ps qs).length = ps.length := by
  induction ps generalizing qs with
  | nil => rfl
  | cons p ps ih => simp [redP, ih]
theorem redQ_len (ps qs : List Nat) : (redQ ps qs).length = qs.length := by
  induction ps generalizing qs with
  | nil => rfl
  | cons p ps ih => rw [redQ, ih, rowQ_len]
theorem redP_pos {ps qs : List Nat} (h : Pos ps) : Pos (redP ps qs) := by
  induction ps generalizing qs with
  | nil => exact h
  | cons p ps ih =>
    obtain ⟨h1, h2⟩ := pos_cons.1 h
    exact pos_cons.2 ⟨rowP_pos h1, ih h2⟩
theorem redQ_pos {ps qs : List Nat} (h : Pos qs) : Pos (redQ ps qs) := by
  induction ps generalizing qs with
  | nil => exact h
  | cons p ps ih => exact ih (rowQ_pos h)
theorem redQ_divs (ps qs : List Nat) : Divs (redQ ps qs) qs := by
  induction ps generalizing qs with
  | nil => exact divs_refl qs
  | cons p ps ih => exact divs_trans (ih _) (rowQ_divs p qs)
theorem divs_mem {as bs : List Nat} (h : Divs as bs) {a : Nat} (ha : a ∈ as) : ∃ b ∈ bs, a ∣ b := by
  induction as generalizing bs with
  | nil => cases ha
  | cons x as ih =>
    cases bs with
    | nil => exact h.elim
    | cons b bs =>
      rcases List.mem_cons.1 ha with rfl | ha
      · exact ⟨b, by simp, h.1⟩
      · obtain ⟨c, hc, hd⟩ := ih h.2 ha
        exact ⟨c, by simp [hc], hd⟩
theorem red_cop {ps qs : List Nat} (h : Pos ps) : ∀ p ∈ redP ps qs, ∀ q ∈ redQ ps qs, Nat.gcd p q = 1 := by
  induction ps generalizing qs with
  | nil => intro p hp; cases hp
  | cons p ps ih =>
    obtain ⟨h1, h2⟩ := pos_cons.1 h
    intro r hr q hq
    rcases List.mem_cons.1 hr with rfl | hr
    · obtain ⟨b, hb, hd⟩ := divs_mem (redQ_divs ps (rowQ p qs)) hq
      exact cop_dvd (row_cop h1 b hb) (Nat.dvd_refl _) hd
    · exact ih h2 r hr q hq
theorem red_prod (ps qs : List Nat) : prodN' ps * prodN' (redQ ps qs) = prodN' qs * prodN' (redP ps qs) := by
  induction ps generalizing qs with
  | nil => simp [redP, redQ, prodN']
  | cons p ps ih =>
    show p * prodN' ps * prodN' (redQ ps (rowQ p qs)) = prodN' qs * (rowP p qs * prodN' (redP ps (rowQ p qs)))
    have h := ih (rowQ p qs)
    have e := row_prod p qs
    generalize prodN' (redQ ps (rowQ p qs)) = x at *
    generalize prodN' (redP ps (rowQ p qs)) = y at *
    generalize prodN' (rowQ p qs) = z at *
    generalize rowP p qs = r at *
    generalize prodN' ps = s at *
    generalize prodN' qs = t at *
    calc p * s * x = p * (s * x) := Nat.mul_assoc _ _ _
      _ = p * (z * y) := by rw [h]
      _ = (p * z) * y := (Nat.mul_assoc _ _ _).symm
      _ = r * t * y := by rw [e]
      _ = t * (r * y) := by rw [Nat.mul_comm r t, Nat.mul_assoc]
/-! ### The two changed about -/
/-! ### Equal products -/
def onesB : List Nat → Bool
  | [] => true
  | p :: ps => decide (p = 1) && onesB ps
theorem ones_prod {ps : List Nat} (h : onesB ps = true) : prodN' ps = 1 := by
  induction ps with
  | nil => rfl
  | cons p ps ih =>
    rw [onesB, Bool.and_eq_true, decide_eq_true_iff] at h
    rw [prodN', ih h.2, h.1]
theorem prod_pos {ps : List Nat} (h : Pos ps) : 1 ≤ prodN' ps := by
  induction ps with
  | nil => exact Nat.le_refl 1
  | cons p ps ih =>
    obtain ⟨h1, h2⟩ := pos_cons.1 h
    exact Nat.mul_pos h1 (ih h2)
theorem prod_ones {ps : List Nat} (h : prodN' ps = 1) : onesB ps = true := by
  induction ps with
  | nil => rfl
  | cons p ps ih =>
    rw [prodN'] at h
    have h1 := Nat.eq_one_of_mul_eq_one_right h
    have h2 := Nat.eq_one_of_mul_eq_one_left h
    rw [onesB, Bool.and_eq_true, decide_eq_true_iff]
    exact ⟨h1, ih h2⟩
theorem cop_mul {a b c : Nat} (h1 : Nat.gcd a b = 1) (h2 : Nat.gcd a c = 1) : Nat.gcd a (b * c) = 1 := Nat.Coprime.mul_right h1 h2
theorem cop_prod {a : Nat} {qs : List Nat} (h : ∀ q ∈ qs, Nat.gcd a q = 1) : Nat.gcd a (prodN' qs) = 1 := by
  induction qs with
  | nil => exact Nat.gcd_one_right a
  | cons q qs ih => exact cop_mul (h q (by simp)) (ih fun r hr => h r (by simp [hr]))
theorem cop_prods {ps qs : List Nat} (h : ∀ p ∈ ps, ∀ q ∈ qs, Nat.gcd p q = 1) : Nat.gcd (prodN' ps) (prodN' qs) = 1 := by
  induction ps with
  | nil => exact Nat.gcd_one_left _
  | cons p ps ih =>
    rw [prodN', Nat.gcd_comm]
    refine cop_mul ?_ ?_
    · rw [Nat.gcd_comm]; exact cop_prod (h p (by simp))
    · rw [Nat.gcd_comm]; exact ih fun r hr => h r (by simp [hr])
/-- The products that are left have nothing in common. -/
theorem red_low {ps qs : List Nat} (h : Pos ps) : Nat.gcd (prodN' (redP ps qs)) (prodN' (redQ ps qs)) = 1 := cop_prods (red_cop h)
theorem ones_iff {ps : List Nat} : onesB ps = true ↔ prodN' ps = 1 := ⟨ones_prod, prod_ones⟩
theorem red_equal {ps qs : List Nat} (hp : Pos ps) (hq : Pos qs) : (onesB (redP ps qs) && onesB (redQ ps qs)) = decide (prodN' ps = prodN' qs) := by
  have e := red_prod ps qs
  have g := red_low (qs := qs) hp
  have p1 := prod_pos hp
  have p2 := prod_pos hq
  have p3 := prod_pos (redP_pos (qs := qs) hp)
  have p4 := prod_pos (redQ_pos (ps := ps) hq)
  rw [Bool.eq_iff_iff, Bool.and_eq_true, ones_iff, ones_iff, decide_eq_true_iff]
  constructor
  · rintro ⟨h1, h2⟩
    rw [h1, h2] at e
    omega
  · intro h
    rw [h] at e
    have e2 := Nat.eq_of_mul_eq_mul_left p2 e
    rw [e2, Nat.gcd_self] at g
    exact ⟨g, by rw [e2]; exact g⟩
def gg (n d : Int) : Nat := Nat.gcd n.natAbs d.natAbs
/-- Den is above 0, and nothing above 1 divides both. -/
def validB (n d : Int) : Bool := decide (0 < d) && decide (gg n d = 1)
theorem validB_true {n d : Int} : validB n d = true ↔ 0 < d ∧ gg n d = 1 := by simp [validB]
/-- n over d in lowest terms, d not 0: above, below. -/
def lowN (n d : Int) : Int := if d < 0 then -(n.tdiv (gg n d : Int)) else n.tdiv (gg n d : Int)
def lowD (n d : Int) : Int := if d < 0 then -(d.tdiv (gg n d : Int)) else d.tdiv (gg n d : Int)
def lowB (n d : Int) : Bool := fitB (lowN n d) && fitB (lowD n d)
/-- What New answers: above, below, the error. -/
def newN (n d : Int) : Int := if d = 0 then 0 else if lowB n d then lowN n d else 0
def newD (n d : Int) : Int := if d = 0 then 0 else if lowB n d then lowD n d else 0
def newE (n d : Int) : Int := if d = 0 then 20 else if lowB n d then 0 else 4
theorem new_zero (n : Int) : newN n 0 = 0 ∧ newD n 0 = 0 ∧ newE n 0 = 20 := ⟨by simp [newN], by simp [newD], by simp [newE]⟩
theorem new_yes {n d : Int} (hd : d ≠ 0) (h : lowB n d = true) : newN n d = lowN n d ∧ newD n d = lowD n d ∧ newE n d = 0 := by
  simp [newN, newD, newE, hd, h]
/-- A number and its quotient by what divides it. -/
theorem exact_quo {n : Int} {g : Nat} (hg : 1 ≤ g) (h : g ∣ n.natAbs) : ∃ p : Int, n = p * (g : Int) ∧ n.tdiv (g : Int) = p ∧ n / (g : Int) = p ∧ p.natAbs ≤ n.natAbs ∧ p.natAbs = n.natAbs / g ∧ (n < 0 ↔ p < 0) ∧ (n = 0 ↔ p = 0) := by
  have h' : (g : Int) ∣ n := Int.ofNat_dvd_left.2 h
  obtain ⟨p, hp⟩ := h'
  have hg0 : (g : Int) ≠ 0 := by omega
  have hp' : n = p * (g : Int) := by rw [hp, Int.mul_comm]
  have e1 : n.tdiv (g : Int) = p := by rw [hp']; exact Int.mul_tdiv_cancel p hg0
  have e2 : n / (g : Int) = p := by rw [hp']; exact Int.mul_ediv_cancel p hg0
  have e3 : n.natAbs = p.natAbs * g := by rw [hp', Int.natAbs_mul]; simp
  refine ⟨p, hp', e1, e2, ?_, ?_, ?_, ?_⟩
  · rw [e3]; exact Nat.le_mul_of_pos_right _ (by omega)
  · rw [e3, Nat.mul_div_cancel _ (by omega)]
  · constructor
    · intro h; rcases Int.lt_or_le p 0 with h1 | h1
      · exact h1
      · have := Int.mul_nonneg h1 (Int.natCast_nonneg g); omega
    · intro h; rw [hp']; exact Int.mul_neg_of_neg_of_pos h (by omega)
  · constructor
    · intro h
      rw [hp'] at h
      exact (Int.mul_eq_zero.1 h).resolve_right hg0
    · intro h; rw [hp', h, Int.zero_mul]
theorem gg_pos_right {n d : Int} (h : d ≠ 0) : 1 ≤ gg n d := Nat.gcd_pos_of_pos_right _ (by omega)
/-- What is left when the divisor is divided out: nothing in common. -/
theorem low_facts {n d : Int} (hd : d ≠ 0) : ∃ p q : Int, n = p * (gg n d : Int) ∧ d = q * (gg n d : Int) ∧ n.tdiv (gg n d : Int) = p ∧ d.tdiv (gg n d : Int) = q ∧ gg p q = 1 ∧ q ≠ 0 ∧ p.natAbs ≤ n.natAbs ∧ q.natAbs ≤ d.natAbs ∧ (d < 0 ↔ q < 0) ∧ p.natAbs = n.natAbs / gg n d ∧ q.natAbs = d.natAbs / gg n d ∧ (n < 0 ↔ p < 0) ∧ (n = 0 ↔ p = 0) := by
  have hg := gg_pos_right (n := n) hd
  obtain ⟨p, hp, tp, -, lp, ap, sp, zp⟩ := exact_quo (n := n) hg (Nat.gcd_dvd_left _ _)
  obtain ⟨q, hq, tq, -, lq, aq, sq, zq⟩ := exact_quo (n := d) hg (Nat.gcd_dvd_right _ _)
  refine ⟨p, q, hp, hq, tp, tq, ?_, fun h => hd (zq.2 h), lp, lq, sq, ap, aq, sp, zp⟩
  unfold gg at *
  rw [ap, aq]
  rw [Nat.gcd_div (Nat.gcd_dvd_left _ _) (Nat.gcd_dvd_right _ _)]
  exact Nat.div_self (by omega)
theorem gg_neg (p q : Int) : gg (-p) (-q) = gg p q := by simp [gg]
theorem low_valid {n d : Int} (hd : d ≠ 0) : validB (lowN n d) (lowD n d) = true ∧ lowN n d * d = n * lowD n d := by
  obtain ⟨p, q, hp, hq, tp, tq, hg, hq0, -, -, hs, -⟩ := low_facts (n := n) hd
  rw [validB_true]
  unfold lowN lowD
  rw [tp, tq]
  by_cases h : d < 0
  · rw [if_pos h, if_pos h]
    refine ⟨⟨by have := hs.1 h; omega, by rw [gg_neg]; exact hg⟩, ?_⟩
    rw [Int.neg_mul, Int.mul_neg]
    generalize (gg n d : Int) = g at *
    rw [hp, hq, Int.mul_comm q g, ← Int.mul_assoc]
  · rw [if_neg h, if_neg h]
    refine ⟨⟨by have : ¬ q < 0 := fun k => h (hs.2 k); omega, hg⟩, ?_⟩
    generalize (gg n d : Int) = g at *
    rw [hp, hq, Int.mul_comm q g, ← Int.mul_assoc]
/-- Two fractions in lowest terms that are worth the same are the same. -/
theorem valid_same {a b c d : Int} (h1 : validB a b = true) (h2 : validB c d = true) (h : a * d = c * b) : a = c ∧ b = d := by
  obtain ⟨hb, g1⟩ := validB_true.1 h1
  obtain ⟨hd, g2⟩ := validB_true.1 h2
  have e : a.natAbs * d.natAbs = c.natAbs * b.natAbs := by rw [← Int.natAbs_mul, ← Int.natAbs_mul, h]
  unfold gg at g1 g2
  have k1 : b.natAbs ∣ d.natAbs := by
    have : b.natAbs ∣ a.natAbs * d.natAbs := ⟨c.natAbs, by rw [e, Nat.mul_comm]⟩
    exact Nat.Coprime.dvd_of_dvd_mul_left (Nat.Coprime.symm g1) this
  have k2 : d.natAbs ∣ b.natAbs := by
    have : d.natAbs ∣ c.natAbs * b.natAbs := ⟨a.natAbs, by rw [← e, Nat.mul_comm]⟩
    exact Nat.Coprime.dvd_of_dvd_mul_left (Nat.Coprime.symm g2) this
  have k3 := Nat.dvd_antisymm k1 k2
  have k4 : b = d := by omega
  subst k4
  exact ⟨Int.eq_of_mul_eq_mul_right (by omega) h, rfl⟩
/-! ### Products -/
def twoN (a b c d : Int) : Int := a.tdiv (gg a d : Int) * c.tdiv (gg c b : Int)
def twoD (a b c d : Int) : Int := b.tdiv (gg c b : Int) * d.tdiv (gg a d : Int)
def twoB (a b c d : Int) : Bool := fitB (twoN a b c d) && fitB (twoD a b c d)
/-- The product of some fractions, from a over b on. -/
def mulO (a b : Int) : List (Int × Int) → Option (Int × Int)
  | [] => some (a, b)
  | f :: fs => if twoB a b f.1 f.2 then mulO (twoN a b f.1 f.2) (twoD a b f.1 f.2) fs else none
def allB : List (Int × Int) → Bool
  | [] => true
  | f :: fs => validB f.1 f.2 && allB fs
def mulN (fs : List (Int × Int)) : Int := if allB fs then ((mulO 1 1 fs).getD (0, 0)).1 else 0
def mulD (fs : List (Int × Int)) : Int := if allB fs then ((mulO 1 1 fs).getD (0, 0)).2 else 0
def mulE (fs : List (Int × Int)) : Int := if allB fs then (if (mulO 1 1 fs).isSome then 0 else 4) else 1
/-- What the product of two in lowest terms is: in lowest terms, and exact. -/
theorem two_facts {a b c d : Int} (h1 : validB a b = true) (h2 : validB c d = true) :
    ∃ p q r s g h : Int, 0 < g ∧ 0 < h ∧ a = p * g ∧ d = s * g ∧ c = r * h ∧ b = q * h ∧ a.tdiv (gg a d : Int) = p ∧ d.tdiv (gg a d : Int) = s ∧ c.tdiv (gg c b : Int) = r ∧ b.tdiv (gg c b : Int) = q ∧
      0 < q ∧ 0 < s ∧ (gg a d : Int) = g ∧ (gg c b : Int) = h ∧ gg (p * r) (q * s) = 1 ∧ p.natAbs ≤ a.natAbs ∧ s ≤ d ∧ r.natAbs ≤ c.natAbs ∧ q ≤ b := by
  obtain ⟨hb, g1⟩ := validB_true.1 h1
  obtain ⟨hd, g2⟩ := validB_true.1 h2
  have ha := gg_pos_right (n := a) (d := d) (by omega)
  have hc := gg_pos_right (n := c) (d := b) (by omega)
  obtain ⟨p, s, hp, hs, tp, ts, cps, hs0, lp, ls, ss, -⟩ := low_facts (n := a) (d := d) (by omega)
  obtain ⟨r, q, hr, hq, tr, tq, crq, hq0, lr, lq, sq, -⟩ := low_facts (n := c) (d := b) (by omega)
  have hs' : 0 < s := by have : ¬ s < 0 := fun k => by have := ss.2 k; omega
                         omega
  have hq' : 0 < q := by have : ¬ q < 0 := fun k => by have := sq.2 k; omega
                         omega
  refine ⟨p, q, r, s, gg a d, gg c b, by omega, by omega, hp, hs, hr, hq, tp, ts, tr, tq, hq', hs', rfl, rfl, ?_, lp, by omega, lr, by omega⟩
  -- nothing in common: p with s, r with q by division; p with q, r with s as they were
  unfold gg at *
  have e1 : a.natAbs = p.natAbs * Nat.gcd a.natAbs d.natAbs := by
    have := congrArg Int.natAbs hp; rw [Int.natAbs_mul] at this; simpa using this
  have e2 : d.natAbs = s.natAbs * Nat.gcd a.natAbs d.natAbs := by
    have := congrArg Int.natAbs hs; rw [Int.natAbs_mul] at this; simpa using this
  have e3 : c.natAbs = r.natAbs * Nat.gcd c.natAbs b.natAbs := by
    have := congrArg Int.natAbs hr; rw [Int.natAbs_mul] at this; simpa using this
  have e4 : b.natAbs = q.natAbs * Nat.gcd c.natAbs b.natAbs := by
    have := congrArg Int.natAbs hq; rw [Int.natAbs_mul] at this; simpa using this
  have c1 : Nat.Coprime p.natAbs q.natAbs := by
    have k1 : Nat.Coprime p.natAbs b.natAbs := Nat.Coprime.coprime_dvd_left ⟨_, e1⟩ g1
    exact Nat.Coprime.coprime_dvd_right ⟨_, e4⟩ k1
  have c2 : Nat.Coprime r.natAbs s.natAbs := by
    have k1 : Nat.Coprime r.natAbs d.natAbs := Nat.Coprime.coprime_dvd_left ⟨_, e3⟩ g2
    exact Nat.Coprime.coprime_dvd_right ⟨_, e2⟩ k1
  rw [Int.natAbs_mul, Int.natAbs_mul]
  exact Nat.Coprime.mul_left (Nat.Coprime.mul_right c1 cps) (Nat.Coprime.mul_right crq c2)
theorem two_valid {a b c d : Int} (h1 : validB a b = true) (h2 : validB c d = true) : validB (twoN a b c d) (twoD a b c d) = true ∧ twoN a b c d * (b * d) = (a * c) * twoD a b c d := by
  obtain ⟨p, q, r, s, g, h, hg, hh, ea, ed, ec, eb, tp, ts, tr, tq, hq, hs, -, -, hc, -⟩ := two_facts h1 h2
  unfold twoN twoD
  rw [tp, ts, tr, tq, validB_true]
  refine ⟨⟨Int.mul_pos hq hs, hc⟩, ?_⟩
  rw [ea, ed, ec, eb]
  simp only [Int.mul_comm, Int.mul_left_comm]
theorem two_one {c d : Int} (h : validB c d = true) : twoN 1 1 c d = c ∧ twoD 1 1 c d = d := by
  have h1 : validB 1 1 = true := by decide
  obtain ⟨k1, k2⟩ := two_valid h1 h
  have := valid_same k1 h (by rw [Int.one_mul, Int.one_mul] at k2; exact k2)
  exact this
end Go.Proofs.YtmnbapcbailcbaaGreat
