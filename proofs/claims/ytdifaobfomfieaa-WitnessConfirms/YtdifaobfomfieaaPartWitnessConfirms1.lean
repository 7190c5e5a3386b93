/- Texts of one chain, laid one behind the other. -/
import Derived.RowKit
namespace Go.Proofs.Ytdifaobfomfieaa
open Go.RowKit
def fitB (x : Int) : Bool := decide (-9223372036854775808 ≤ x ∧ x ≤ 9223372036854775807)
def fitV (x : Int) : Int := if fitB x then x else 0
theorem fitB_true {x : Int} : fitB x = true ↔ -9223372036854775808 ≤ x ∧ x ≤ 9223372036854775807 := by unfold fitB; exact decide_eq_true_iff
theorem fitB_false {x : Int} : fitB x = false ↔ ¬ (-9223372036854775808 ≤ x ∧ x ≤ 9223372036854775807) := by unfold fitB; exact decide_eq_false_iff_not
theorem fitB_yes {x : Int} (h : -9223372036854775808 ≤ x ∧ x ≤ 9223372036854775807) : fitB x = true := fitB_true.2 h
theorem fitB_no {x : Int} (h : ¬ (-9223372036854775808 ≤ x ∧ x ≤ 9223372036854775807)) : fitB x = false := fitB_false.2 h
theorem fitV_yes {x : Int} (h : -9223372036854775808 ≤ x ∧ x ≤ 9223372036854775807) : fitV x = x := by unfold fitV; rw [fitB_yes h]; rfl
theorem fitV_no {x : Int} (h : ¬ (-9223372036854775808 ≤ x ∧ x ≤ 9223372036854775807)) : fitV x = 0 := by unfold fitV; rw [fitB_no h]; rfl
/-! ### Rows of numbers -/
def nth (zs : List Int) (k : Nat) : Int := zs.getD k 0
def InR (zs : List Int) : Prop := ∀ k, -9223372036854775808 ≤ nth zs k ∧ nth zs k ≤ 9223372036854775807
theorem drop_nth (zs : List Int) (k : Nat) (h : k < zs.length) : zs.drop k = nth zs k :: zs.drop (k + 1) := by
  rw [List.drop_eq_getElem_cons h]
  unfold nth
  rw [List.getD_eq_getElem?_getD, List.getElem?_eq_getElem h]
  rfl
theorem drop_end (zs : List Int) (k : Nat) (h : ¬ k < zs.length) : zs.drop k = [] := List.drop_eq_nil_of_le (by omega)
/-- The greatest common divisor of a row, from d on. -/
def gcdO (d : Nat) : List Int → Nat
  | [] => d
  | x :: xs => gcdO (Nat.gcd d x.natAbs) xs
def gcdV (zs : List Int) : Int := fitV (gcdO 0 zs : Nat)
def gcdB (zs : List Int) : Bool := fitB (gcdO 0 zs : Nat)
/-- One number against a row: what is left of it, and of the row. -/
def rowP (p : Nat) : List Nat → Nat
  | [] => p
  | q :: qs => rowP (p / Nat.gcd p q) qs
def rowQ (p : Nat) : List Nat → List Nat
  | [] => []
  | q :: qs => q / Nat.gcd p q :: rowQ (p / Nat.gcd p q) qs
/-- A row against a row. -/
def redP : List Nat → List Nat → List Nat
  | [], _ => []
  | p :: ps, qs => rowP p qs :: redP ps (rowQ p qs)
def redQ : List Nat → List Nat → List Nat
  | [], qs => qs
  | p :: ps, qs => redQ ps (rowQ p qs)
def prodN' : List Nat → Nat
  | [] => 1
  | p :: ps => p * prodN' ps
/-- All are above 0. -/
def Pos (ps : List Nat) : Prop := ∀ p ∈ ps, 1 ≤ p
theorem pos_nil : Pos [] := fun _ h => by cases h
theorem pos_cons {p : Nat} {ps : List Nat} : Pos (p :: ps) ↔ 1 ≤ p ∧ Pos ps := by
  unfold Pos; simp
theorem quo_pos {p q : Nat} (hp : 1 ≤ p) : 1 ≤ p / Nat.gcd p q := Nat.div_pos (Nat.le_of_dvd hp (Nat.gcd_dvd_left p q)) (Nat.gcd_pos_of_pos_left q hp)
theorem quo_pos_right {p q : Nat} (hq : 1 ≤ q) : 1 ≤ q / Nat.gcd p q := Nat.div_pos (Nat.le_of_dvd hq (Nat.gcd_dvd_right p q)) (Nat.gcd_pos_of_pos_right p hq)
theorem quo_dvd (p q : Nat) : p / Nat.gcd p q ∣ p := Nat.div_dvd_of_dvd (Nat.gcd_dvd_left p q)
theorem quo_dvd_right (p q : Nat) : q / Nat.gcd p q ∣ q := Nat.div_dvd_of_dvd (Nat.gcd_dvd_right p q)
theorem quo_cop {p q : Nat} (hp : 1 ≤ p) : Nat.gcd (p / Nat.gcd p q) (q / Nat.gcd p q) = 1 := by
  rw [Nat.gcd_div (Nat.gcd_dvd_left p q) (Nat.gcd_dvd_right p q), Nat.div_self (Nat.gcd_pos_of_pos_left q hp)]
theorem quo_mul (p q : Nat) : p / Nat.gcd p q * Nat.gcd p q = p := Nat.div_mul_cancel (Nat.gcd_dvd_left p q)
theorem quo_mul_right (p q : Nat) : q / Nat.gcd p q * Nat.gcd p q = q := Nat.div_mul_cancel (Nat.gcd_dvd_right p q)
theorem cop_dvd {a b c d : Nat} (h : Nat.gcd c d = 1) (h1 : a ∣ c) (h2 : b ∣ d) : Nat.gcd a b = 1 := by
  have h3 : Nat.gcd a b ∣ Nat.gcd c d := Nat.dvd_gcd (Nat.dvd_trans (Nat.gcd_dvd_left a b) h1) (Nat.dvd_trans (Nat.gcd_dvd_right a b) h2)
  rw [h] at h3
  exact Nat.dvd_one.1 h3
/-! ### One row -/
theorem rowQ_len (p : Nat) (qs : List Nat) : (rowQ p qs).length = qs.length := by
  induction qs generalizing p with
  | nil => rfl
  | cons q qs ih => simp [rowQ, ih]
theorem rowP_dvd (p : Nat) (qs : List Nat) : rowP p qs ∣ p := by
  induction qs generalizing p with
  | nil => exact Nat.dvd_refl p
  | cons q qs ih => exact Nat.dvd_trans (ih _) (quo_dvd p q)
theorem rowP_pos {p : Nat} {qs : List Nat} (h : 1 ≤ p) : 1 ≤ rowP p qs := by
  rcases Nat.eq_zero_or_pos (rowP p qs) with e | e
  · have := rowP_dvd p qs
    rw [e] at this
    have := Nat.eq_zero_of_zero_dvd this
    omega
  · exact e
theorem rowQ_pos {p : Nat} {qs : List Nat} (h : Pos qs) : Pos (rowQ p qs) := by
  induction qs generalizing p with
  | nil => exact h
  | cons q qs ih =>
    obtain ⟨h1, h2⟩ := pos_cons.1 h
    exact pos_cons.2 ⟨quo_pos_right h1, ih h2⟩
/-- Place by place, the one divides the other. -/
def Divs : List Nat → List Nat → Prop
  | [], [] => True
  | a :: as, b :: bs => a ∣ b ∧ Divs as bs
  | _, _ => False
theorem divs_refl (as : List Nat) : Divs as as := by
  induction as with
  | nil => trivial
  | cons a as ih => exact ⟨Nat.dvd_refl a, ih⟩
theorem divs_trans {as bs cs : List Nat} (h1 : Divs as bs) (h2 : Divs bs cs) : Divs as cs := by
  induction as generalizing bs cs with
  | nil =>
    cases bs with
    | nil => exact h2
    | cons b bs => exact h1.elim
  | cons a as ih =>
    cases bs with
    | nil => exact h1.elim
    | cons b bs =>
      cases cs with
      | nil => exact h2.elim
      | cons c cs => exact ⟨Nat.dvd_trans h1.1 h2.1, ih h1.2 h2.2⟩
theorem rowQ_divs (p : Nat) (qs : List Nat) : Divs (rowQ p qs) qs := by
  induction qs generalizing p with
  | nil => trivial
  | cons q qs ih => exact ⟨quo_dvd_right p q, ih _⟩
/-- What is left of one number has nothing in common with what is left of the row. -/
theorem row_cop {p : Nat} {qs : List Nat} (hp : 1 ≤ p) : ∀ q ∈ rowQ p qs, Nat.gcd (rowP p qs) q = 1 := by
  induction qs generalizing p with
  | nil => intro q h; cases h
  | cons q qs ih =>
    intro r hr
    rcases List.mem_cons.1 hr with rfl | hr
    · exact cop_dvd (quo_cop (q := q) hp) (rowP_dvd _ _) (Nat.dvd_refl _)
    · exact ih (quo_pos hp) r hr
theorem row_prod (p : Nat) (qs : List Nat) : p * prodN' (rowQ p qs) = rowP p qs * prodN' qs := by
  induction qs generalizing p with
  | nil => rfl
  | cons q qs ih =>
    show p * (q / Nat.gcd p q * prodN' (rowQ (p / Nat.gcd p q) qs)) = rowP (p / Nat.gcd p q) qs * (q * prodN' qs)
    have h := ih (p / Nat.gcd p q)
    have e1 := quo_mul p q
    have e2 := quo_mul_right p q
    generalize Nat.gcd p q = g at *
    generalize p / g = a at *
    generalize q / g = b at *
    rw [← e1, ← e2]
    calc a * g * (b * prodN' (rowQ a qs)) = (a * prodN' (rowQ a qs)) * (b * g) := by
            simp only [Nat.mul_comm, Nat.mul_left_comm, Nat.mul_assoc]
      _ = (rowP a qs * prodN' qs) * (b * g) := by rw [h]
      _ = rowP a qs * (b * g * prodN' qs) := by
            rw [Nat.mul_assoc, Nat.mul_comm (prodN' qs)]
/-! ### Row against row -/
theorem redP_len (ps qs : List Nat) : (redP ps qs).length = ps.length := by
  induction ps generalizing qs with
  | nil => rfl
  | cons p ps ih => simp [redP, ih]
theorem redQ_len (ps qs : List Nat) : (redQ ps qs).length = qs.length := by
  induction ps generalizing qs with
  | nil => rfl
  | cons p ps ih => rw [redQ, ih, rowQ_len]
theorem redP_pos {ps qs : List Nat} (h : Pos ps) : Pos (redP ps qs) := by
  induction ps generalizing qs with
  | nil => exact h
  | cons p ps ih =>
    obtain ⟨h1, h2⟩ := pos_cons.1 h
    exact pos_cons.2 ⟨rowP_pos h1, ih h2⟩
theorem redQ_pos {ps qs : List Nat} (h : Pos qs) : Pos (redQ ps qs) := by
  induction ps generalizing qs with
  | nil => exact h
  | cons p ps ih => exact ih (rowQ_pos h)
theorem redQ_divs (ps qs : List Nat) : Divs (redQ ps qs) qs := by
  induction ps generalizing qs with
  | nil => exact divs_refl qs
  | cons p ps ih => exact divs_trans (ih _) (rowQ_divs p qs)
theorem divs_mem {as bs : List Nat} (h : Divs as bs) {a : Nat} (ha : a ∈ as) : ∃ b ∈ bs, a ∣ b := by
  induction as generalizing bs with
  | nil => cases ha
  | cons x as ih =>
    cases bs with
    | nil => exact h.elim
    | cons b bs =>
      rcases List.mem_cons.1 ha with rfl | ha
      · exact ⟨b, by simp, h.1⟩
      · obtain ⟨c, hc, hd⟩ := ih h.2 ha
        exact ⟨c, by simp [hc], hd⟩
theorem red_cop {ps qs : List Nat} (h : Pos ps) : ∀ p ∈ redP ps qs, ∀ q ∈ redQ ps qs, Nat.gcd p q = 1 := by
  induction ps generalizing qs with
  | nil => intro p hp; cases hp
  | cons p ps ih =>
    obtain ⟨h1, h2⟩ := pos_cons.1 h
    intro r hr q hq
    rcases List.mem_cons.1 hr with rfl | hr
    · obtain ⟨b, hb, hd⟩ := divs_mem (redQ_divs ps (rowQ p qs)) hq
      exact cop_dvd (row_cop h1 b hb) (Nat.dvd_refl _) hd
    · exact ih h2 r hr q hq
theorem red_prod (ps qs : List Nat) : prodN' ps * prodN' (redQ ps qs) = prodN' qs * prodN' (redP ps qs) := by
  induction ps generalizing qs with
  | nil => simp [redP, redQ, prodN']
  | cons p ps ih =>
    show p * prodN' ps * prodN' (redQ ps (rowQ p qs)) = prodN' qs * (rowP p qs * prodN' (redP ps (rowQ p qs)))
    have h := ih (rowQ p qs)
    have e := row_prod p qs
    generalize prodN' (redQ ps (rowQ p qs)) = x at *
    generalize prodN' (redP ps (rowQ p qs)) = y at *
    generalize prodN' (rowQ p qs) = z at *
    generalize rowP p qs = r at *
    generalize prodN' ps = s at *
    generalize prodN' qs = t at *
    calc p * s * x = p * (s * x) := Nat.mul_assoc _ _ _
      _ = p * (z * y) := by rw [h]
      _ = (p * z) * y := (Nat.mul_assoc _ _ _).symm
      _ = r * t * y := by rw [e]
      _ = t * (r * y) := by rw [Nat.mul_comm r t, Nat.mul_assoc]
/-! ### The two changed about -/
/-! ### Equal products -/
def onesB : List Nat → Bool
  | [] => true
  | p :: ps => decide (p = 1) && onesB ps
theorem ones_prod {ps : List Nat} (h : onesB ps = true) : prodN' ps = 1 := by
  induction ps with
  | nil => rfl
  | cons p ps ih =>
    rw [onesB, Bool.and_eq_true, decide_eq_true_iff] at h
    rw [prodN', ih h.2, h.1]
theorem prod_pos {ps : List Nat} (h : Pos ps) : 1 ≤ prodN' ps := by
  induction ps with
  | nil => exact Nat.le_refl 1
  | cons p ps ih =>
    obtain ⟨h1, h2⟩ := pos_cons.1 h
    exact Nat.mul_pos h1 (ih h2)
theorem prod_ones {ps : List Nat} (h : prodN' ps = 1) : onesB ps = true := by
  induction ps with
  | nil => rfl
  | cons p ps ih =>
    rw [prodN'] at h
    have h1 := Nat.eq_one_of_mul_eq_one_right h
    have h2 := Nat.eq_one_of_mul_eq_one_left h
    rw [onesB, Bool.and_eq_true, decide_eq_true_iff]
    exact ⟨h1, ih h2⟩
theorem cop_mul {a b c : Nat} (h1 : Nat.gcd a b = 1) (h2 : Nat.gcd a c = 1) : Nat.gcd a (b * c) = 1 := Nat.Coprime.mul_right h1 h2
theorem cop_prod {a : Nat} {qs : List Nat} (h : ∀ q ∈ qs, Nat.gcd a q = 1) : Nat.gcd a (prodN' qs) = 1 := by
  induction qs with
  | nil => exact Nat.gcd_one_right a
  | cons q qs ih => exact cop_mul (h q (by simp)) (ih fun r hr => h r (by simp [hr]))
theorem cop_prods {ps qs : List Nat} (h : ∀ p ∈ ps, ∀ q ∈ qs, Nat.gcd p q = 1) : Nat.gcd (prodN' ps) (prodN' qs) = 1 := by
  induction ps with
  | nil => exact Nat.gcd_one_left _
  | cons p ps ih =>
    rw [prodN', Nat.gcd_comm]
    refine cop_mul ?_ ?_
    · rw [Nat.gcd_comm]; exact cop_prod (h p (by simp))
    · rw [Nat.gcd_comm]; exact ih fun r hr => h r (by simp [hr])
/-- The products that are left have nothing in common. -/
theorem red_low {ps qs : List Nat} (h : Pos ps) : Nat.gcd (prodN' (redP ps qs)) (prodN' (redQ ps qs)) = 1 := cop_prods (red_cop h)
theorem ones_iff {ps : List Nat} : onesB ps = true ↔ prodN' ps = 1 := ⟨ones_prod, prod_ones⟩
theorem red_equal {ps qs : List Nat} (hp : Pos ps) (hq : Pos qs) : (onesB (redP ps qs) && onesB (redQ ps qs)) = decide (prodN' ps = prodN' qs) := by
  have e := red_prod ps qs
  have g := red_low (qs := qs) hp
  have p1 := prod_pos hp
  have p2 := prod_pos hq
  have p3 := prod_pos (redP_pos (qs := qs) hp)
  have p4 := prod_pos (redQ_pos (ps := ps) hq)
  rw [Bool.eq_iff_iff, Bool.and_eq_true, ones_iff, ones_iff, decide_eq_true_iff]
  constructor
  · rintro ⟨h1, h2⟩
    rw [h1, h2] at e
    omega
  · intro h
    rw [h] at e
    have e2 := Nat.eq_of_mul_eq_mul_left p2 e
    rw [e2, Nat.gcd_self] at g
    exact ⟨g, by rw [e2]; exact g⟩
def val : List Int → Int
  | [] => 0
  | x :: xs => x + 1073741824 * val xs
def Dig (ds : List Int) : Prop := ∀ x ∈ ds, 0 ≤ x ∧ x < 1073741824
/-- The highest digit is not 0. -/
def Norm (ds : List Int) : Prop := ds ≠ [] → nth ds (ds.length - 1) ≠ 0
theorem nth_zero (x : Int) (xs : List Int) : nth (x :: xs) 0 = x := rfl
theorem nth_succ (x : Int) (xs : List Int) (k : Nat) : nth (x :: xs) (k + 1) = nth xs k := rfl
theorem nth_over {xs : List Int} {k : Nat} (h : xs.length ≤ k) : nth xs k = 0 := by
  unfold nth; rw [List.getD_eq_getElem?_getD, List.getElem?_eq_none h]; rfl
theorem nth_get {xs : List Int} {k : Nat} (h : k < xs.length) : nth xs k = xs[k] := by
  unfold nth; rw [List.getD_eq_getElem?_getD, List.getElem?_eq_getElem h]; rfl
theorem Dig.nth {ds : List Int} (h : Dig ds) (k : Nat) : 0 ≤ nth ds k ∧ nth ds k < 1073741824 := by
  by_cases hk : k < ds.length
  · rw [nth_get hk]; exact h _ (List.getElem_mem hk)
  · rw [nth_over (by omega)]; decide
theorem Dig.head {x : Int} {xs : List Int} (h : Dig (x :: xs)) : 0 ≤ x ∧ x < 1073741824 := h x (by simp)
theorem Dig.tail {x : Int} {xs : List Int} (h : Dig (x :: xs)) : Dig xs := fun y hy => h y (by simp [hy])
theorem Dig.cons {x : Int} {xs : List Int} (h : 0 ≤ x ∧ x < 1073741824) (hs : Dig xs) : Dig (x :: xs) := by
  intro y hy
  rcases List.mem_cons.1 hy with rfl | hy
  · exact h
  · exact hs y hy
theorem Dig.take {ds : List Int} (h : Dig ds) (n : Nat) : Dig (ds.take n) := fun x hx => h x (List.mem_of_mem_take hx)
theorem dig_nil : Dig [] := fun x hx => by cases hx
theorem val_nonneg {ds : List Int} (h : Dig ds) : 0 ≤ val ds := by
  induction ds with
  | nil => exact Int.le_refl _
  | cons x xs ih => have := ih h.tail; have := h.head; simp only [val]; omega
theorem Norm.tail {x : Int} {xs : List Int} (h : Norm (x :: xs)) (hne : xs ≠ []) : Norm xs := by
  intro _
  have h1 := h (by simp)
  cases xs with
  | nil => exact absurd rfl hne
  | cons y ys => simpa [nth_succ] using h1
theorem norm_pos {ds : List Int} (h : Dig ds) (hn : Norm ds) (hne : ds ≠ []) : 0 < val ds := by
  induction ds with
  | nil => exact absurd rfl hne
  | cons x xs ih =>
    simp only [val]
    by_cases hx : xs = []
    · subst hx
      have := hn hne
      simp [nth_zero] at this
      have := h.head
      simp only [val]
      omega
    · have := ih h.tail (hn.tail hx) hx
      have := h.head
      omega
theorem val_longer {xs ys : List Int} (hx : Dig xs) (hy : Dig ys) (hn : Norm ys) (hl : xs.length < ys.length) : val xs < val ys := by
  induction ys generalizing xs with
  | nil => simp at hl
  | cons y ys ih =>
    cases xs with
    | nil => exact norm_pos hy hn (by simp)
    | cons x xs =>
      have hne : ys ≠ [] := by rintro rfl; simp at hl
      have := ih hx.tail hy.tail (hn.tail hne) (by simpa using hl)
      have := hx.head
      have := hy.head
      simp only [val]
      omega
/-! ### Comparing -/
def cmpI (x y : Int) : Int := if x < y then -1 else if y < x then 1 else 0
def cmpL : List Int → List Int → Int
  | x :: xs, y :: ys => if cmpL xs ys = 0 then cmpI x y else cmpL xs ys
  | _, _ => 0
theorem cmpI_lt {x y : Int} (h : x < y) : cmpI x y = -1 := if_pos h
theorem cmpI_gt {x y : Int} (h : y < x) : cmpI x y = 1 := by unfold cmpI; rw [if_neg (by omega), if_pos h]
theorem cmpI_eq {x y : Int} (h : x = y) : cmpI x y = 0 := by unfold cmpI; rw [if_neg (by omega), if_neg (by omega)]
theorem cmpL_val {xs ys : List Int} (hx : Dig xs) (hy : Dig ys) (hl : xs.length = ys.length) : cmpL xs ys = cmpI (val xs) (val ys) := by
  induction xs generalizing ys with
  | nil =>
    cases ys with
    | nil => rfl
    | cons y ys => simp at hl
  | cons x xs ih =>
    cases ys with
    | nil => simp at hl
    | cons y ys =>
      have e := ih hx.tail hy.tail (by simpa using hl)
      have h1 := hx.head
      have h2 := hy.head
      simp only [cmpL, val, e]
      rcases Int.lt_trichotomy (val xs) (val ys) with h | h | h
      · rw [cmpI_lt h, if_neg (by decide), cmpI_lt (by omega)]
      · rw [cmpI_eq h, if_pos rfl, h]
        rcases Int.lt_trichotomy x y with k | k | k
        · rw [cmpI_lt k, cmpI_lt (by omega)]
        · rw [cmpI_eq k, cmpI_eq (by omega)]
        · rw [cmpI_gt k, cmpI_gt (by omega)]
      · rw [cmpI_gt h, if_neg (by decide), cmpI_gt (by omega)]
theorem cmpL_drop {xs ys : List Int} (k : Nat) (hl : xs.length = ys.length) (h : cmpL (xs.drop k) (ys.drop k) ≠ 0) : cmpL xs ys = cmpL (xs.drop k) (ys.drop k) := by
  induction k generalizing xs ys with
  | zero => rfl
  | succ k ih =>
    cases xs with
    | nil => exact absurd (by simp [cmpL]) h
    | cons x xs =>
      cases ys with
      | nil => simp at hl
      | cons y ys =>
        simp only [List.drop_succ_cons] at h ⊢
        have e := ih (by simpa using hl) h
        simp only [cmpL]
        rw [e, if_neg h]
theorem cmpL_step {xs ys : List Int} (k : Nat) (hx : k < xs.length) (hy : k < ys.length) (h : cmpL (xs.drop (k + 1)) (ys.drop (k + 1)) = 0) :
    cmpL (xs.drop k) (ys.drop k) = cmpI (nth xs k) (nth ys k) := by
  rw [drop_nth xs k hx, drop_nth ys k hy]
  simp only [cmpL]
  rw [h, if_pos rfl]
/-! ### Adding -/
/-! ### Taking away -/
theorem val_tail (ys : List Int) : val ys = nth ys 0 + 1073741824 * val ys.tail := by cases ys <;> rfl
/-! ### A number's digits -/
def ofF : Nat → Nat → List Int
  | 0, _ => []
  | f + 1, n => if n = 0 then [] else ((n % 1073741824 : Nat) : Int) :: ofF f (n / 1073741824)
def ofL (n : Nat) : List Int := ofF n n
theorem ofF_enough (n f : Nat) (h : n ≤ f) : ofF f n = ofF n n := by
  induction n using Nat.strongRecOn generalizing f with
  | _ n ih =>
    by_cases h0 : n = 0
    · subst h0
      cases f with
      | zero => rfl
      | succ f => rfl
    · obtain ⟨m, rfl⟩ : ∃ m, n = m + 1 := ⟨n - 1, by omega⟩
      obtain ⟨g, rfl⟩ : ∃ g, f = g + 1 := ⟨f - 1, by omega⟩
      simp only [ofF]
      rw [ih ((m + 1) / 1073741824) (by omega) g (by omega), ih ((m + 1) / 1073741824) (by omega) m (by omega)]
theorem ofL_zero : ofL 0 = [] := rfl
theorem ofL_pos {n : Nat} (h : n ≠ 0) : ofL n = ((n % 1073741824 : Nat) : Int) :: ofL (n / 1073741824) := by
  obtain ⟨m, rfl⟩ : ∃ m, n = m + 1 := ⟨n - 1, by omega⟩
  unfold ofL
  rw [ofF, if_neg h, ofF_enough ((m + 1) / 1073741824) m (by omega)]
theorem ofL_all (n : Nat) : val (ofL n) = n ∧ Dig (ofL n) ∧ Norm (ofL n) := by
  induction n using Nat.strongRecOn with
  | _ n ih =>
    by_cases h : n = 0
    · subst h; rw [ofL_zero]; exact ⟨rfl, dig_nil, fun h => absurd rfl h⟩
    · obtain ⟨h1, h2, h3⟩ := ih (n / 1073741824) (by omega)
      rw [ofL_pos h]
      refine ⟨by simp only [val, h1]; omega, Dig.cons (by omega) h2, fun _ => ?_⟩
      by_cases h4 : n / 1073741824 = 0
      · rw [h4, ofL_zero]
        simp [nth_zero]
        omega
      · have h5 : ofL (n / 1073741824) ≠ [] := by rw [ofL_pos h4]; simp
        have h6 := h3 h5
        have h7 : 0 < (ofL (n / 1073741824)).length := List.length_pos_iff.2 h5
        rw [List.length_cons, show (ofL (n / 1073741824)).length + 1 - 1 = ((ofL (n / 1073741824)).length - 1) + 1 by omega, nth_succ]
        exact h6
theorem ofL_len {n : Nat} (h : n ≤ 9223372036854775808) : (ofL n).length ≤ 3 := by
  by_cases h0 : n = 0
  · subst h0; rw [ofL_zero]; decide
  · rw [ofL_pos h0]
    by_cases h1 : n / 1073741824 = 0
    · rw [h1, ofL_zero]; simp
    · rw [ofL_pos h1]
      by_cases h2 : n / 1073741824 / 1073741824 = 0
      · rw [h2, ofL_zero]; simp
      · rw [ofL_pos h2]
        have h3 : n / 1073741824 / 1073741824 / 1073741824 = 0 := by omega
        rw [h3, ofL_zero]; simp
/-! ### Leaving out noughts at the high end -/
theorem val_take {ds : List Int} {n : Nat} (h : ∀ k, n ≤ k → nth ds k = 0) : val (ds.take n) = val ds := by
  induction ds generalizing n with
  | nil => simp
  | cons x xs ih =>
    cases n with
    | zero =>
      have h0 := h 0 (Nat.le_refl _)
      have h1 := ih (n := 0) (fun k _ => h (k + 1) (by omega))
      rw [nth_zero] at h0
      simp only [List.take_zero, val] at *
      omega
    | succ n =>
      have h1 := ih (n := n) (fun k hk => h (k + 1) (by omega))
      simp only [List.take_succ_cons, val, h1]
/-! ### Multiplying -/
def rowL (c x : Int) : List Int → List Int → List Int
  | o :: os, y :: ys => (o + x * y + c) % 1073741824 :: rowL ((o + x * y + c) / 1073741824) x os ys
  | o :: os, [] => (o + c) :: os
  | [], _ => []
def timesL : List Int → List Int → List Int → List Int
  | [], hi, _ => hi
  | x :: xs, hi, ys => nth (rowL 0 x hi ys) 0 :: timesL xs (rowL 0 x hi ys).tail ys
theorem rowL_val {c x : Int} {os ys : List Int} (h : ys.length < os.length) : val (rowL c x os ys) = val os + x * val ys + c := by
  induction ys generalizing os c with
  | nil =>
    cases os with
    | nil => simp at h
    | cons o os => simp only [rowL, val]; omega
  | cons y ys ih =>
    cases os with
    | nil => simp at h
    | cons o os =>
      have e := ih (os := os) (c := (o + x * y + c) / 1073741824) (by simpa using h)
      simp only [rowL, val, e]
      rw [Int.mul_add x y, Int.mul_left_comm x]
      generalize x * y = p
      generalize x * val ys = q
      omega
theorem rowL_len {c x : Int} {os ys : List Int} (h : ys.length < os.length) : (rowL c x os ys).length = os.length := by
  induction ys generalizing os c with
  | nil =>
    cases os with
    | nil => simp at h
    | cons o os => rfl
  | cons y ys ih =>
    cases os with
    | nil => simp at h
    | cons o os => simp only [rowL, List.length_cons, ih (os := os) (by simpa using h)]
end Go.Proofs.Ytdifaobfomfieaa
namespace Go.Proofs.Ytdifaobfomfieaa
theorem prod_le {x y : Int} (hx : 0 ≤ x ∧ x < 1073741824) (hy : 0 ≤ y ∧ y < 1073741824) : 0 ≤ x * y ∧ x * y ≤ 1152921502459363329 := by
  refine ⟨Int.mul_nonneg hx.1 hy.1, ?_⟩
  have := Int.mul_le_mul (show x ≤ 1073741823 by omega) (show y ≤ 1073741823 by omega) hy.1 (by decide)
  omega
theorem rowL_dig {c x : Int} {os ys : List Int} (h : ys.length < os.length) (ho : Dig os) (hy : Dig ys) (hx : 0 ≤ x ∧ x < 1073741824) (hc : 0 ≤ c ∧ c < 1073741824) (hz : nth os ys.length = 0) : Dig (rowL c x os ys) := by
  induction ys generalizing os c with
  | nil =>
    cases os with
    | nil => simp at h
    | cons o os =>
      have : o = 0 := hz
      exact Dig.cons (by omega) ho.tail
  | cons y ys ih =>
    cases os with
    | nil => simp at h
    | cons o os =>
      have h1 := prod_le hx hy.head
      have h2 := ho.head
      simp only [rowL]
      exact Dig.cons (by omega) (ih (by simpa using h) ho.tail hy.tail (by omega) hz)
theorem rowL_far {c x : Int} {os ys : List Int} (k : Nat) (h : ys.length < os.length) (hk : ys.length < k) : nth (rowL c x os ys) k = nth os k := by
  induction ys generalizing os c k with
  | nil =>
    cases os with
    | nil => simp at h
    | cons o os =>
      cases k with
      | zero => simp at hk
      | succ k => rfl
  | cons y ys ih =>
    cases os with
    | nil => simp at h
    | cons o os =>
      cases k with
      | zero => simp at hk
      | succ k =>
        simp only [rowL, nth_succ]
        exact ih k (by simpa using h) (by simpa using hk)
theorem timesL_val {xs hi ys : List Int} (h : xs.length + ys.length ≤ hi.length) : val (timesL xs hi ys) = val hi + val xs * val ys := by
  induction xs generalizing hi with
  | nil => simp [timesL, val]
  | cons x xs ih =>
    simp only [List.length_cons] at h
    have hl := rowL_len (c := 0) (x := x) (os := hi) (ys := ys) (by omega)
    have hv := rowL_val (c := 0) (x := x) (os := hi) (ys := ys) (by omega)
    have hi2 := ih (hi := (rowL 0 x hi ys).tail) (by rw [List.length_tail, hl]; omega)
    have ht := val_tail (rowL 0 x hi ys)
    simp only [timesL, val, hi2]
    rw [Int.add_mul, Int.mul_assoc]
    generalize x * val ys = p at *
    generalize val xs * val ys = q at *
    omega
theorem val_noughts (n : Nat) : val (List.replicate n 0) = 0 := by
  induction n with
  | zero => rfl
  | succ n ih => rw [List.replicate_succ, val, ih]; rfl
theorem dig_noughts (n : Nat) : Dig (List.replicate n 0) := fun x hx => by rw [(List.mem_replicate.1 hx).2]; decide
theorem nth_noughts (n k : Nat) : nth (List.replicate n 0) k = 0 := by
  by_cases h : k < n
  · rw [nth_get (by simpa using h)]; simp
  · exact nth_over (by simp; omega)
theorem Dig.append {xs ys : List Int} (hx : Dig xs) (hy : Dig ys) : Dig (xs ++ ys) := fun z hz => (List.mem_append.1 hz).elim (hx z) (hy z)
theorem Dig.left {xs ys : List Int} (h : Dig (xs ++ ys)) : Dig xs := fun z hz => h z (by simp [hz])
theorem Dig.right {xs ys : List Int} (h : Dig (xs ++ ys)) : Dig ys := fun z hz => h z (by simp [hz])
theorem nth_at {lo hi : List Int} {i : Nat} (h : lo.length = i) (k : Nat) : nth (lo ++ hi) (i + k) = nth hi k := by
  unfold nth
  rw [List.getD_eq_getElem?_getD, List.getD_eq_getElem?_getD, List.getElem?_append_right (by omega), show i + k - lo.length = k by omega]
theorem set_at {lo hi : List Int} {i : Nat} (h : lo.length = i) (o s : Int) : (lo ++ o :: hi).set i s = lo ++ s :: hi := by
  subst h
  rw [List.set_append_right _ _ (Nat.le_refl _), Nat.sub_self]
  rfl
end Go.Proofs.Ytdifaobfomfieaa
