/- Plain arithmetic of products of numbers as rows of digits. No program is named here. -/
import Derived.Test.YtoenbiigamegoabBig
namespace Go.Proofs.Ytoenbiigamegoab

theorem prod_le {x y : Int} (hx : 0 ≤ x ∧ x < 1073741824) (hy : 0 ≤ y ∧ y < 1073741824) : 0 ≤ x * y ∧ x * y ≤ 1152921502459363329 := by
  refine ⟨Int.mul_nonneg hx.1 hy.1, ?_⟩
  have := Int.mul_le_mul (show x ≤ 1073741823 by omega) (show y ≤ 1073741823 by omega) hy.1 (by decide)
  omega
theorem rowL_dig {c x : Int} {os ys : List Int} (h : ys.length < os.length) (ho : Dig os) (hy : Dig ys) (hx : 0 ≤ x ∧ x < 1073741824) (hc : 0 ≤ c ∧ c < 1073741824) (hz : nth os ys.length = 0) : Dig (rowL c x os ys) := by
  induction ys generalizing os c with
  | nil =>
    cases os with
    | nil => simp at h
    | cons o os =>
      have : o = 0 := hz
      exact Dig.cons (by omega) ho.tail
  | cons y ys ih =>
    cases os with
    | nil => simp at h
    | cons o os =>
      have h1 := prod_le hx hy.head
      have h2 := ho.head
      simp only [rowL]
      exact Dig.cons (by omega) (ih (by simpa using h) ho.tail hy.tail (by omega) hz)
theorem rowL_far {c x : Int} {os ys : List Int} (k : Nat) (h : ys.length < os.length) (hk : ys.length < k) : nth (rowL c x os ys) k = nth os k := by
  induction ys generalizing os c k with
  | nil =>
    cases os with
    | nil => simp at h
    | cons o os =>
      cases k with
      | zero => simp at hk
      | succ k => rfl
  | cons y ys ih =>
    cases os with
    | nil => simp at h
    | cons o os =>
      cases k with
      | zero => simp at hk
      | succ k =>
        simp only [rowL, nth_succ]
        exact ih k (by simpa using h) (by simpa using hk)
theorem timesL_val {xs hi ys : List Int} (h : xs.length + ys.length ≤ hi.length) : val (timesL xs hi ys) = val hi + val xs * val ys := by
  induction xs generalizing hi with
  | nil => simp [timesL, val]
  | cons x xs ih =>
    simp only [List.length_cons] at h
    have hl := rowL_len (c := 0) (x := x) (os := hi) (ys := ys) (by omega)
    have hv := rowL_val (c := 0) (x := x) (os := hi) (ys := ys) (by omega)
    have hi2 := ih (hi := (rowL 0 x hi ys).tail) (by rw [List.length_tail, hl]; omega)
    have ht := val_tail (rowL 0 x hi ys)
    simp only [timesL, val, hi2]
    rw [Int.add_mul, Int.mul_assoc]
    generalize x * val ys = p at *
    generalize val xs * val ys = q at *
    omega
theorem val_noughts (n : Nat) : val (List.replicate n 0) = 0 := by
  induction n with
  | zero => rfl
  | succ n ih => rw [List.replicate_succ, val, ih]; rfl
theorem dig_noughts (n : Nat) : Dig (List.replicate n 0) := fun x hx => by rw [(List.mem_replicate.1 hx).2]; decide
theorem nth_noughts (n k : Nat) : nth (List.replicate n 0) k = 0 := by
  by_cases h : k < n
  · rw [nth_get (by simpa using h)]; simp
  · exact nth_over (by simp; omega)
theorem Dig.append {xs ys : List Int} (hx : Dig xs) (hy : Dig ys) : Dig (xs ++ ys) := fun z hz => (List.mem_append.1 hz).elim (hx z) (hy z)
theorem Dig.left {xs ys : List Int} (h : Dig (xs ++ ys)) : Dig xs := fun z hz => h z (by simp [hz])
theorem Dig.right {xs ys : List Int} (h : Dig (xs ++ ys)) : Dig ys := fun z hz => h z (by simp [hz])
theorem nth_at {lo hi : List Int} {i : Nat} (h : lo.length = i) (k : Nat) : nth (lo ++ hi) (i + k) = nth hi k := by
  unfold nth
  rw [List.getD_eq_getElem?_getD, List.getD_eq_getElem?_getD, List.getElem?_append_right (by omega), show i + k - lo.length = k by omega]
theorem set_at {lo hi : List Int} {i : Nat} (h : lo.length = i) (o s : Int) : (lo ++ o :: hi).set i s = lo ++ s :: hi := by
  subst h
  rw [List.set_append_right _ _ (Nat.le_refl _), Nat.sub_self]
  rfl
end Go.Proofs.Ytoenbiigamegoab
