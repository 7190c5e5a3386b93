/- Actors, plain: what follows of the table. -/
import Derived.Test.YthgblljokonejaaActM
namespace Go.Proofs.Ythgblljokonejaa
open Go.ChangeShapes Go.WideShapes Go.ChangeAt Go.RowKit

theorem up_len (n : Nat) (x : Int) : (upS n x).length = n := by unfold upS; simp
theorem up_first {n : Nat} {x : Int} (h : 1 ≤ n) : nth (upS n x) 0 = x := by
  unfold upS nth
  rw [List.getD_eq_getElem?_getD, List.getElem?_set_self (by simp; omega)]
  rfl
theorem up_rest {n j : Nat} {x : Int} (h : 1 ≤ j) (hj : j < n) : nth (upS n x) j = 0 := by
  unfold upS nth
  rw [List.getD_eq_getElem?_getD, List.getElem?_set_ne (by omega), List.getElem?_replicate, if_pos hj]
  rfl
theorem weave_len (n m : Nat) (I : List (List Int)) : (weaveS n m I).length = n * m := by unfold weaveS; simp
theorem part_len (n m : Nat) (row : List Int) : (partS n m row).length = n := by unfold partS; simp
theorem part_nth {n m i : Nat} {row : List Int} (h : i < n) : nthL (partS n m row) i = (List.range m).map fun j => nth row (j * n + i) := by unfold partS; exact nthL_map h
theorem part_part {n m i : Nat} {row : List Int} (h : i < n) : (nthL (partS n m row) i).length = m := by rw [part_nth h]; simp
theorem weave_part {n m : Nat} {row : List Int} (h : row.length = n * m) : weaveS n m (partS n m row) = row := by
  refine list_nth (by rw [weave_len, h]) fun q hq => ?_
  rw [weave_len] at hq
  have hn : 0 < n := by
    rcases Nat.eq_zero_or_pos n with e | e
    · subst e; simp at hq
    · exact e
  unfold weaveS
  rw [nth_map hq, part_nth (Nat.mod_lt q hn), nth_map (by rw [Nat.div_lt_iff_lt_mul hn, Nat.mul_comm]; exact hq)]
  congr 1
  rw [Nat.mul_comm]
  exact Nat.div_add_mod q n
theorem sumO_rep (x : Int) : ∀ (j k : Nat), fitB ((k : Int) * x) = true → sumO ((k : Int) * x) (List.replicate j x) = if fitB (((k + j : Nat) : Int) * x) = true then some (((k + j : Nat) : Int) * x) else none := by
  intro j
  induction j with
  | zero => intro k hk; rw [Nat.add_zero, if_pos hk]; rfl
  | succ j ih =>
    intro k hk
    rw [List.replicate_succ, sumO_cons]
    have e : (k : Int) * x + x = ((k + 1 : Nat) : Int) * x := by rw [show ((k + 1 : Nat) : Int) = (k : Int) + 1 by omega, Int.add_mul, Int.one_mul]
    rw [e]
    by_cases h1 : fitB (((k + 1 : Nat) : Int) * x) = true
    · rw [if_pos h1, ih (k + 1) h1, show k + 1 + j = k + (j + 1) by omega]
    · rw [if_neg h1, if_neg]
      intro h2
      apply h1
      rw [fitB_true] at h2 hk ⊢
      have hle : ((k + 1 : Nat) : Int) ≤ ((k + (j + 1) : Nat) : Int) := by omega
      have h0 : (0 : Int) ≤ ((k + 1 : Nat) : Int) := by omega
      rcases Int.le_total 0 x with hx | hx
      · have a1 := Int.mul_le_mul_of_nonneg_right hle hx
        have a2 := Int.mul_nonneg h0 hx
        omega
      · have a1 := Int.mul_le_mul_of_nonpos_right hle hx
        have a2 := Int.mul_nonpos_of_nonneg_of_nonpos h0 hx
        omega
theorem sum_rep (x : Int) (n : Nat) : sumO 0 (List.replicate n x) = if fitB ((n : Int) * x) = true then some ((n : Int) * x) else none := by
  have h := sumO_rep x n 0 (by simp; decide)
  simpa using h
/-- Two rows laid against each other. -/
def dotS : List Int → List Int → Int
  | x :: xs, y :: ys => x * y + dotS xs ys
  | _, _ => 0
theorem dotS_nil (xs : List Int) : dotS xs [] = 0 := by cases xs <;> rfl
theorem dotO_dotS : ∀ (xs ys : List Int) (s y : Int), dotO s xs ys = some y → y = s + dotS xs ys
  | [], ys, s, y, h => by
    rw [dotO_nil_left] at h
    cases ys <;> simp [dotS] <;> simpa using h.symm
  | x :: xs, [], s, y, h => by
    unfold dotO at h
    simp [dotS]
    simpa using h.symm
  | x :: xs, z :: ys, s, y, h => by
    unfold dotO at h
    split at h
    · split at h
      · have := dotO_dotS xs ys (s + x * z) y h
        simp only [dotS]
        omega
      · cases h
    · cases h
theorem dotS_zeros : ∀ (xs ys : List Int) (m : Nat), dotS xs (ys ++ List.replicate m 0) = dotS xs ys
  | [], ys, m => by cases ys <;> cases m <;> rfl
  | x :: xs, y :: ys, m => by simp only [List.cons_append, dotS, dotS_zeros xs ys m]
  | x :: xs, [], 0 => rfl
  | x :: xs, [], m + 1 => by
    have := dotS_zeros xs [] m
    simp only [List.nil_append] at this ⊢
    rw [List.replicate_succ]
    simp only [dotS, Int.mul_zero, Int.zero_add]
    rw [this]
    exact dotS_nil xs
theorem dotS_take : ∀ (xs ys : List Int) (m : Nat), xs.length ≤ m → dotS xs (ys.take m) = dotS xs ys
  | [], ys, m, _ => by cases ys <;> cases m <;> rfl
  | x :: xs, [], m, _ => by simp
  | x :: xs, y :: ys, 0, h => by simp at h
  | x :: xs, y :: ys, m + 1, h => by
    simp only [List.take_succ_cons, dotS]
    rw [dotS_take xs ys m (by simpa using h)]
theorem dotS_step : ∀ (xs ys : List Int) (j : Nat), j < xs.length → j < ys.length → dotS (xs.take (j + 1)) (ys.take (j + 1)) = dotS (xs.take j) (ys.take j) + nth xs j * nth ys j
  | [], _, _, h, _ => by simp at h
  | _ :: _, [], _, _, h => by simp at h
  | x :: xs, y :: ys, 0, _, _ => by simp [dotS, nth]
  | x :: xs, y :: ys, j + 1, h1, h2 => by
    have := dotS_step xs ys j (by simpa using h1) (by simpa using h2)
    simp only [List.take_succ_cons, dotS]
    have e1 : nth (x :: xs) (j + 1) = nth xs j := rfl
    have e2 : nth (y :: ys) (j + 1) = nth ys j := rfl
    rw [e1, e2, this]
    omega
theorem dotS_min : ∀ (xs ys : List Int) (j : Nat), ¬ (j < xs.length ∧ j < ys.length) → dotS (xs.take j) (ys.take j) = dotS xs ys
  | [], _, j, _ => by simp [dotS]
  | x :: xs, [], j, _ => by simp [dotS_nil]
  | x :: xs, y :: ys, 0, h => by simp at h
  | x :: xs, y :: ys, j + 1, h => by
    simp only [List.take_succ_cons, dotS]
    rw [dotS_min xs ys j (by simpa using h)]
/-- What a filter keeps that took these. -/
def lastS (took : List Int) (m : Nat) : List Int := (took.reverse ++ List.replicate m 0).take m
theorem last_len (took : List Int) (m : Nat) : (lastS took m).length = m := by unfold lastS; rw [List.length_take, List.length_append, List.length_replicate]; omega
theorem last_nil (m : Nat) : lastS [] m = List.replicate m 0 := by unfold lastS; simp
theorem take_cons_take (x : Int) (L : List Int) : ∀ m : Nat, (x :: L.take m).take m = (x :: L).take m
  | 0 => rfl
  | m + 1 => by rw [List.take_succ_cons, List.take_succ_cons, List.take_take, Nat.min_eq_left (by omega)]
theorem last_push (took : List Int) (x : Int) (m : Nat) : (x :: lastS took m).take m = lastS (took ++ [x]) m := by
  unfold lastS
  rw [take_cons_take, List.reverse_append]
  rfl
theorem filter_dot {taps took : List Int} {m : Nat} {x y : Int} (hm : taps.length = m + 1) (h : dotO 0 taps (x :: lastS took m) = some y) : y = dotS taps (took ++ [x]).reverse := by
  have h1 := dotO_dotS _ _ _ _ h
  have h2 : x :: lastS took m = ((took ++ [x]).reverse ++ List.replicate m 0).take (m + 1) := by
    unfold lastS
    rw [List.reverse_append]
    rfl
  rw [h2, dotS_take _ _ _ (by omega), dotS_zeros] at h1
  omega
end Go.Proofs.Ythgblljokonejaa
