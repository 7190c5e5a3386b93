/- Texts of one chain, laid one behind the other. -/
import Derived.RowKit
namespace Go.Proofs.YtolpelfdhcccnaaGreatDoor
open Go.RowKit
def fitB (x : Int) : Bool := decide (-9223372036854775808 ≤ x ∧ x ≤ 9223372036854775807)
def fitV (x : Int) : Int := if fitB x then x else 0
theorem fitB_true {x : Int} : fitB x = true ↔ -9223372036854775808 ≤ x ∧ x ≤ 9223372036854775807 := by unfold fitB; exact decide_eq_true_iff
theorem fitB_false {x : Int} : fitB x = false ↔ ¬ (-9223372036854775808 ≤ x ∧ x ≤ 9223372036854775807) := by unfold fitB; exact decide_eq_false_iff_not
theorem fitB_yes {x : Int} (h : -9223372036854775808 ≤ x ∧ x ≤ 9223372036854775807) : fitB x = true := fitB_true.2 h
theorem fitB_no {x : Int} (h : ¬ (-9223372036854775808 ≤ x ∧ x ≤ 9223372036854775807)) : fitB x = false := fitB_false.2 h
theorem fitV_yes {x : Int} (h : -9223372036854775808 ≤ x ∧ x ≤ 9223372036854775807) : fitV x = x := by unfold fitV; rw [fitB_yes h]; rfl
theorem fitV_no {x : Int} (h : ¬ (-9223372036854775808 ≤ x ∧ x ≤ 9223372036854775807)) : fitV x = 0 := by unfold fitV; rw [fitB_no h]; rfl
/-! ### Rows of numbers -/
def nth (zs : List Int) (k : Nat) : Int := zs.getD k 0
def InR (zs : List Int) : Prop := ∀ k, -9223372036854775808 ≤ nth zs k ∧ nth zs k ≤ 9223372036854775807
theorem inR0 : InR [] := fun k => by
  have e : nth [] k = 0 := by simp [nth]
  rw [e]; decide
theorem drop_nth (zs : List Int) (k : Nat) (h : k < zs.length) : zs.drop k = nth zs k :: zs.drop (k + 1) := by
  rw [List.drop_eq_getElem_cons h]
  unfold nth
  rw [List.getD_eq_getElem?_getD, List.getElem?_eq_getElem h]
  rfl
theorem drop_end (zs : List Int) (k : Nat) (h : ¬ k < zs.length) : zs.drop k = [] := List.drop_eq_nil_of_le (by omega)
def val : List Int → Int
  | [] => 0
  | x :: xs => x + 1073741824 * val xs
def Dig (ds : List Int) : Prop := ∀ x ∈ ds, 0 ≤ x ∧ x < 1073741824
/-- The highest digit is not 0. -/
def Norm (ds : List Int) : Prop := ds ≠ [] → nth ds (ds.length - 1) ≠ 0
theorem nth_zero (x : Int) (xs : List Int) : nth (x :: xs) 0 = x := rfl
theorem nth_succ (x : Int) (xs : List Int) (k : Nat) : nth (x :: xs) (k + 1) = nth xs k := rfl
theorem nth_over {xs : List Int} {k : Nat} (h : xs.length ≤ k) : nth xs k = 0 := by
  unfold nth; rw [List.getD_eq_getElem?_getD, List.getElem?_eq_none h]; rfl
theorem nth_get {xs : List Int} {k : Nat} (h : k < xs.length) : nth xs k = xs[k] := by
  unfold nth; rw [List.getD_eq_getElem?_getD, List.getElem?_eq_getElem h]; rfl
theorem Dig.nth {ds : List Int} (h : Dig ds) (k : Nat) : 0 ≤ nth ds k ∧ nth ds k < 1073741824 := by
  by_cases hk : k < ds.length
  · rw [nth_get hk]; exact h _ (List.getElem_mem hk)
  · rw [nth_over (by omega)]; decide
theorem Dig.head {x : Int} {xs : List Int} (h : Dig (x :: xs)) : 0 ≤ x ∧ x < 1073741824 := h x (by simp)
theorem Dig.tail {x : Int} {xs : List Int} (h : Dig (x :: xs)) : Dig xs := fun y hy => h y (by simp [hy])
theorem Dig.cons {x : Int} {xs : List Int} (h : 0 ≤ x ∧ x < 1073741824) (hs : Dig xs) : Dig (x :: xs) := by
  intro y hy
  rcases List.mem_cons.1 hy with rfl | hy
  · exact h
  · exact hs y hy
theorem Dig.take {ds : List Int} (h : Dig ds) (n : Nat) : Dig (ds.take n) := fun x hx => h x (List.mem_of_mem_take hx)
theorem Dig.inR {ds : List Int} (h : Dig ds) : InR ds := fun k => by have := h.nth k; omega
theorem dig_nil : Dig [] := fun x hx => by cases hx
theorem val_nonneg {ds : List Int} (h : Dig ds) : 0 ≤ val ds := by
  induction ds with
  | nil => exact Int.le_refl _
  | cons x xs ih => have := ih h.tail; have := h.head; simp only [val]; omega
theorem Norm.tail {x : Int} {xs : List Int} (h : Norm (x :: xs)) (hne : xs ≠ []) : Norm xs := by
  intro _
  have h1 := h (by simp)
  cases xs with
  | nil => exact absurd rfl hne
  | cons y ys => simpa [nth_succ] using h1
theorem norm_pos {ds : List Int} (h : Dig ds) (hn : Norm ds) (hne : ds ≠ []) : 0 < val ds := by
  induction ds with
  | nil => exact absurd rfl hne
  | cons x xs ih =>
    simp only [val]
    by_cases hx : xs = []
    · subst hx
      have := hn hne
      simp [nth_zero] at this
      have := h.head
      simp only [val]
      omega
    · have := ih h.tail (hn.tail hx) hx
      have := h.head
      omega
theorem val_longer {xs ys : List Int} (hx : Dig xs) (hy : Dig ys) (hn : Norm ys) (hl : xs.length < ys.length) : val xs < val ys := by
  induction ys generalizing xs with
  | nil => simp at hl
  | cons y ys ih =>
    cases xs with
    | nil => exact norm_pos hy hn (by simp)
    | cons x xs =>
      have hne : ys ≠ [] := by rintro rfl; simp at hl
      have := ih hx.tail hy.tail (hn.tail hne) (by simpa using hl)
      have := hx.head
      have := hy.head
      simp only [val]
      omega
/-! ### Comparing -/
def cmpI (x y : Int) : Int := if x < y then -1 else if y < x then 1 else 0
def cmpL : List Int → List Int → Int
  | x :: xs, y :: ys => if cmpL xs ys = 0 then cmpI x y else cmpL xs ys
  | _, _ => 0
theorem cmpI_lt {x y : Int} (h : x < y) : cmpI x y = -1 := if_pos h
theorem cmpI_gt {x y : Int} (h : y < x) : cmpI x y = 1 := by unfold cmpI; rw [if_neg (by omega), if_pos h]
theorem cmpI_eq {x y : Int} (h : x = y) : cmpI x y = 0 := by unfold cmpI; rw [if_neg (by omega), if_neg (by omega)]
theorem cmpL_val {xs ys : List Int} (hx : Dig xs) (hy : Dig ys) (hl : xs.length = ys.length) : cmpL xs ys = cmpI (val xs) (val ys) := by
  induction xs generalizing ys with
  | nil =>
    cases ys with
    | nil => rfl
    | cons y ys => simp at hl
  | cons x xs ih =>
    cases ys with
    | nil => simp at hl
    | cons y ys =>
      have e := ih hx.tail hy.tail (by simpa using hl)
      have h1 := hx.head
      have h2 := hy.head
      simp only [cmpL, val, e]
      rcases Int.lt_trichotomy (val xs) (val ys) with h | h | h
      · rw [cmpI_lt h, if_neg (by decide), cmpI_lt (by omega)]
      · rw [cmpI_eq h, if_pos rfl, h]
        rcases Int.lt_trichotomy x y with k | k | k
        · rw [cmpI_lt k, cmpI_lt (by omega)]
        · rw [cmpI_eq k, cmpI_eq (by omega)]
        · rw [cmpI_gt k, cmpI_gt (by omega)]
      · rw [cmpI_gt h, if_neg (by decide), cmpI_gt (by omega)]
theorem cmpL_drop {xs ys : List Int} (k : Nat) (hl : xs.length = ys.length) (h : cmpL (xs.drop k) (ys.drop k) ≠ 0) : cmpL xs ys = cmpL (xs.drop k) (ys.drop k) := by
  induction k generalizing xs ys with
  | zero => rfl
  | succ k ih =>
    cases xs with
    | nil => exact absurd (by simp [cmpL]) h
    | cons x xs =>
      cases ys with
      | nil => simp at hl
      | cons y ys =>
        simp only [List.drop_succ_cons] at h ⊢
        have e := ih (by simpa using hl) h
        simp only [cmpL]
        rw [e, if_neg h]
theorem cmpL_step {xs ys : List Int} (k : Nat) (hx : k < xs.length) (hy : k < ys.length) (h : cmpL (xs.drop (k + 1)) (ys.drop (k + 1)) = 0) :
    cmpL (xs.drop k) (ys.drop k) = cmpI (nth xs k) (nth ys k) := by
  rw [drop_nth xs k hx, drop_nth ys k hy]
  simp only [cmpL]
  rw [h, if_pos rfl]
/-! ### Adding -/
def addL (c : Int) : List Int → List Int → List Int
  | [], [] => if 0 < c then [c] else []
  | x :: xs, [] => (c + x) % 1073741824 :: addL ((c + x) / 1073741824) xs []
  | [], y :: ys => (c + y) % 1073741824 :: addL ((c + y) / 1073741824) [] ys
  | x :: xs, y :: ys => (c + x + y) % 1073741824 :: addL ((c + x + y) / 1073741824) xs ys
theorem addL_val {xs ys : List Int} {c : Int} (hx : Dig xs) (hy : Dig ys) (hc : 0 ≤ c ∧ c ≤ 1) : val (addL c xs ys) = c + val xs + val ys ∧ Dig (addL c xs ys) := by
  induction xs generalizing ys c with
  | nil =>
    induction ys generalizing c with
    | nil =>
      unfold addL
      split
      · refine ⟨by simp [val], Dig.cons (by omega) dig_nil⟩
      · refine ⟨by simp only [val]; omega, dig_nil⟩
    | cons y ys ih =>
      have h1 := hy.head
      obtain ⟨e, d⟩ := ih hy.tail (c := (c + y) / 1073741824) (by omega)
      simp only [addL, val, e] at *
      exact ⟨by omega, Dig.cons (by omega) d⟩
  | cons x xs ih =>
    have h1 := hx.head
    cases ys with
    | nil =>
      obtain ⟨e, d⟩ := ih hx.tail dig_nil (c := (c + x) / 1073741824) (by omega)
      simp only [addL, val, e] at *
      exact ⟨by omega, Dig.cons (by omega) d⟩
    | cons y ys =>
      have h2 := hy.head
      obtain ⟨e, d⟩ := ih hx.tail hy.tail (c := (c + x + y) / 1073741824) (by omega)
      simp only [addL, val, e] at *
      exact ⟨by omega, Dig.cons (by omega) d⟩
theorem addL_len {xs ys : List Int} {c : Int} : (addL c xs ys).length ≤ xs.length + ys.length + 1 := by
  induction xs generalizing ys c with
  | nil =>
    induction ys generalizing c with
    | nil => unfold addL; split <;> simp
    | cons y ys ih => have := ih (c := (c + y) / 1073741824); simp only [addL, List.length_cons] at *; omega
  | cons x xs ih =>
    cases ys with
    | nil => have := ih (ys := []) (c := (c + x) / 1073741824); simp only [addL, List.length_cons] at *; omega
    | cons y ys => have := ih (ys := ys) (c := (c + x + y) / 1073741824); simp only [addL, List.length_cons] at *; omega
/-! ### Taking away -/
def lessL (b : Int) : List Int → List Int → List Int
  | [], _ => []
  | x :: xs, ys => (if x - b - nth ys 0 < 0 then x - b - nth ys 0 + 1073741824 else x - b - nth ys 0) :: lessL (if x - b - nth ys 0 < 0 then 1 else 0) xs ys.tail
theorem val_tail (ys : List Int) : val ys = nth ys 0 + 1073741824 * val ys.tail := by cases ys <;> rfl
theorem Dig.tail' {ys : List Int} (h : Dig ys) : Dig ys.tail := by
  cases ys with
  | nil => exact h
  | cons y ys => exact h.tail
theorem lessL_val {xs ys : List Int} {b : Int} (hx : Dig xs) (hy : Dig ys) (hb : 0 ≤ b ∧ b ≤ 1) (h : val ys + b ≤ val xs) : val (lessL b xs ys) = val xs - val ys - b ∧ Dig (lessL b xs ys) := by
  induction xs generalizing ys b with
  | nil =>
    have := val_nonneg hy
    simp only [lessL, val] at *
    exact ⟨by omega, dig_nil⟩
  | cons x xs ih =>
    have h1 := hx.head
    have h2 := hy.nth 0
    have h3 := val_tail ys
    simp only [lessL]
    by_cases hs : x - b - nth ys 0 < 0
    · simp only [hs, if_true]
      obtain ⟨e, d⟩ := ih hx.tail hy.tail' (b := 1) (by decide) (by simp only [val] at h; omega)
      simp only [val, e] at *
      exact ⟨by omega, Dig.cons (by omega) d⟩
    · simp only [hs, if_false]
      obtain ⟨e, d⟩ := ih hx.tail hy.tail' (b := 0) (by decide) (by simp only [val] at h; omega)
      simp only [val, e] at *
      exact ⟨by omega, Dig.cons (by omega) d⟩
/-! ### A number's digits -/
def ofF : Nat → Nat → List Int
  | 0, _ => []
  | f + 1, n => if n = 0 then [] else ((n % 1073741824 : Nat) : Int) :: ofF f (n / 1073741824)
def ofL (n : Nat) : List Int := ofF n n
theorem ofF_enough (n f : Nat) (h : n ≤ f) : ofF f n = ofF n n := by
  induction n using Nat.strongRecOn generalizing f with
  | _ n ih =>
    by_cases h0 : n = 0
    · subst h0
      cases f with
      | zero => rfl
      | succ f => rfl
    · obtain ⟨m, rfl⟩ : ∃ m, n = m + 1 := ⟨n - 1, by omega⟩
      obtain ⟨g, rfl⟩ : ∃ g, f = g + 1 := ⟨f - 1, by omega⟩
      simp only [ofF]
      rw [ih ((m + 1) / 1073741824) (by omega) g (by omega), ih ((m + 1) / 1073741824) (by omega) m (by omega)]
theorem ofL_zero : ofL 0 = [] := rfl
theorem ofL_pos {n : Nat} (h : n ≠ 0) : ofL n = ((n % 1073741824 : Nat) : Int) :: ofL (n / 1073741824) := by
  obtain ⟨m, rfl⟩ : ∃ m, n = m + 1 := ⟨n - 1, by omega⟩
  unfold ofL
  rw [ofF, if_neg h, ofF_enough ((m + 1) / 1073741824) m (by omega)]
theorem ofL_all (n : Nat) : val (ofL n) = n ∧ Dig (ofL n) ∧ Norm (ofL n) := by
  induction n using Nat.strongRecOn with
  | _ n ih =>
    by_cases h : n = 0
    · subst h; rw [ofL_zero]; exact ⟨rfl, dig_nil, fun h => absurd rfl h⟩
    · obtain ⟨h1, h2, h3⟩ := ih (n / 1073741824) (by omega)
      rw [ofL_pos h]
      refine ⟨by simp only [val, h1]; omega, Dig.cons (by omega) h2, fun _ => ?_⟩
      by_cases h4 : n / 1073741824 = 0
      · rw [h4, ofL_zero]
        simp [nth_zero]
        omega
      · have h5 : ofL (n / 1073741824) ≠ [] := by rw [ofL_pos h4]; simp
        have h6 := h3 h5
        have h7 : 0 < (ofL (n / 1073741824)).length := List.length_pos_iff.2 h5
        rw [List.length_cons, show (ofL (n / 1073741824)).length + 1 - 1 = ((ofL (n / 1073741824)).length - 1) + 1 by omega, nth_succ]
        exact h6
theorem ofL_len {n : Nat} (h : n ≤ 9223372036854775808) : (ofL n).length ≤ 3 := by
  by_cases h0 : n = 0
  · subst h0; rw [ofL_zero]; decide
  · rw [ofL_pos h0]
    by_cases h1 : n / 1073741824 = 0
    · rw [h1, ofL_zero]; simp
    · rw [ofL_pos h1]
      by_cases h2 : n / 1073741824 / 1073741824 = 0
      · rw [h2, ofL_zero]; simp
      · rw [ofL_pos h2]
        have h3 : n / 1073741824 / 1073741824 / 1073741824 = 0 := by omega
        rw [h3, ofL_zero]; simp
/-! ### Leaving out noughts at the high end -/
theorem val_take {ds : List Int} {n : Nat} (h : ∀ k, n ≤ k → nth ds k = 0) : val (ds.take n) = val ds := by
  induction ds generalizing n with
  | nil => simp
  | cons x xs ih =>
    cases n with
    | zero =>
      have h0 := h 0 (Nat.le_refl _)
      have h1 := ih (n := 0) (fun k _ => h (k + 1) (by omega))
      rw [nth_zero] at h0
      simp only [List.take_zero, val] at *
      omega
    | succ n =>
      have h1 := ih (n := n) (fun k hk => h (k + 1) (by omega))
      simp only [List.take_succ_cons, val, h1]
/-! ### Multiplying -/
def rowL (c x : Int) : List Int → List Int → List Int
  | o :: os, y :: ys => (o + x * y + c) % 1073741824 :: rowL ((o + x * y + c) / 1073741824) x os ys
  | o :: os, [] => (o + c) :: os
  | [], _ => []
def timesL : List Int → List Int → List Int → List Int
  | [], hi, _ => hi
  | x :: xs, hi, ys => nth (rowL 0 x hi ys) 0 :: timesL xs (rowL 0 x hi ys).tail ys
theorem rowL_val {c x : Int} {os ys : List Int} (h : ys.length < os.length) : val (rowL c x os ys) = val os + x * val ys + c := by
  induction ys generalizing os c with
  | nil =>
    cases os with
    | nil => simp at h
    | cons o os => simp only [rowL, val]; omega
  | cons y ys ih =>
    cases os with
    | nil => simp at h
    | cons o os =>
      have e := ih (os := os) (c := (o + x * y + c) / 1073741824) (by simpa using h)
      simp only [rowL, val, e]
      rw [Int.mul_add x y, Int.mul_left_comm x]
      generalize x * y = p
      generalize x * val ys = q
      omega
theorem rowL_len {c x : Int} {os ys : List Int} (h : ys.length < os.length) : (rowL c x os ys).length = os.length := by
  induction ys generalizing os c with
  | nil =>
    cases os with
    | nil => simp at h
    | cons o os => rfl
  | cons y ys ih =>
    cases os with
    | nil => simp at h
    | cons o os => simp only [rowL, List.length_cons, ih (os := os) (by simpa using h)]
end Go.Proofs.YtolpelfdhcccnaaGreatDoor
namespace Go.Proofs.YtolpelfdhcccnaaGreatDoor
theorem prod_le {x y : Int} (hx : 0 ≤ x ∧ x < 1073741824) (hy : 0 ≤ y ∧ y < 1073741824) : 0 ≤ x * y ∧ x * y ≤ 1152921502459363329 := by
  refine ⟨Int.mul_nonneg hx.1 hy.1, ?_⟩
  have := Int.mul_le_mul (show x ≤ 1073741823 by omega) (show y ≤ 1073741823 by omega) hy.1 (by decide)
  omega
theorem rowL_dig {c x : Int} {os ys : List Int} (h : ys.length < os.length) (ho : Dig os) (hy : Dig ys) (hx : 0 ≤ x ∧ x < 1073741824) (hc : 0 ≤ c ∧ c < 1073741824) (hz : nth os ys.length = 0) : Dig (rowL c x os ys) := by
  induction ys generalizing os c with
  | nil =>
    cases os with
    | nil => simp at h
    | cons o os =>
      have : o = 0 := hz
      exact Dig.cons (by omega) ho.tail
  | cons y ys ih =>
    cases os with
    | nil => simp at h
    | cons o os =>
      have h1 := prod_le hx hy.head
      have h2 := ho.head
      simp only [rowL]
      exact Dig.cons (by omega) (ih (by simpa using h) ho.tail hy.tail (by omega) hz)
theorem rowL_far {c x : Int} {os ys : List Int} (k : Nat) (h : ys.length < os.length) (hk : ys.length < k) : nth (rowL c x os ys) k = nth os k := by
  induction ys generalizing os c k with
  | nil =>
    cases os with
    | nil => simp at h
    | cons o os =>
      cases k with
      | zero => simp at hk
      | succ k => rfl
  | cons y ys ih =>
    cases os with
    | nil => simp at h
    | cons o os =>
      cases k with
      | zero => simp at hk
      | succ k =>
        simp only [rowL, nth_succ]
        exact ih k (by simpa using h) (by simpa using hk)
theorem timesL_val {xs hi ys : List Int} (h : xs.length + ys.length ≤ hi.length) : val (timesL xs hi ys) = val hi + val xs * val ys := by
  induction xs generalizing hi with
  | nil => simp [timesL, val]
  | cons x xs ih =>
    simp only [List.length_cons] at h
    have hl := rowL_len (c := 0) (x := x) (os := hi) (ys := ys) (by omega)
    have hv := rowL_val (c := 0) (x := x) (os := hi) (ys := ys) (by omega)
    have hi2 := ih (hi := (rowL 0 x hi ys).tail) (by rw [List.length_tail, hl]; omega)
    have ht := val_tail (rowL 0 x hi ys)
    simp only [timesL, val, hi2]
    rw [Int.add_mul, Int.mul_assoc]
    generalize x * val ys = p at *
    generalize val xs * val ys = q at *
    omega
theorem val_noughts (n : Nat) : val (List.replicate n 0) = 0 := by
  induction n with
  | zero => rfl
  | succ n ih => rw [List.replicate_succ, val, ih]; rfl
theorem dig_noughts (n : Nat) : Dig (List.replicate n 0) := fun x hx => by rw [(List.mem_replicate.1 hx).2]; decide
theorem nth_noughts (n k : Nat) : nth (List.replicate n 0) k = 0 := by
  by_cases h : k < n
  · rw [nth_get (by simpa using h)]; simp
  · exact nth_over (by simp; omega)
theorem Dig.append {xs ys : List Int} (hx : Dig xs) (hy : Dig ys) : Dig (xs ++ ys) := fun z hz => (List.mem_append.1 hz).elim (hx z) (hy z)
theorem Dig.left {xs ys : List Int} (h : Dig (xs ++ ys)) : Dig xs := fun z hz => h z (by simp [hz])
theorem Dig.right {xs ys : List Int} (h : Dig (xs ++ ys)) : Dig ys := fun z hz => h z (by simp [hz])
theorem nth_at {lo hi : List Int} {i : Nat} (h : lo.length = i) (k : Nat) : nth (lo ++ hi) (i + k) = nth hi k := by
  unfold nth
  rw [List.getD_eq_getElem?_getD, List.getD_eq_getElem?_getD, List.getElem?_append_right (by omega), show i + k - lo.length = k by omega]
theorem set_at {lo hi : List Int} {i : Nat} (h : lo.length = i) (o s : Int) : (lo ++ o :: hi).set i s = lo ++ s :: hi := by
  subst h
  rw [List.set_append_right _ _ (Nat.le_refl _), Nat.sub_self]
  rfl
end Go.Proofs.YtolpelfdhcccnaaGreatDoor
