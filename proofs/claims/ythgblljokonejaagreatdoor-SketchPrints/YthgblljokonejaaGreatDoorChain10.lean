/- Texts of one chain, laid one behind the other. -/
import Derived.Test.YthgblljokonejaaGreatDoorChain8
/- Plain lists of bytes: a text's tokens, one by one. No program is named here. -/
namespace Go.Proofs.YthgblljokonejaaGreatDoor
open Go.RowKit

theorem len_take_row (p : Int → Bool) (l : List UInt8) : (l.take (rowN p l)).length = rowN p l := by
  rw [List.length_take]
  have := rowN_le p l
  omega
theorem by8_pos {l : List UInt8} {n : Nat} (h : by8 l n ≠ 0) : n < l.length := by
  rcases Nat.lt_or_ge n l.length with h1 | h1
  · exact h1
  · exact absurd (by8_end h1) h
theorem letB_word {x : Int} (h : letB x = true) : wordB x = true := by unfold wordB; rw [h]; rfl
theorem letB_ne {x : Int} (h : letB x = true) : x ≠ 0 := by intro e; subst e; cases h
theorem digB_ne0 {x : Int} (h : digB x = true) : x ≠ 0 := by intro e; subst e; cases h
theorem markB_ne {x : Int} (h : markB x = true) : x ≠ 0 := by intro e; subst e; cases h
theorem row_pos0 {p : Int → Bool} {l : List UInt8} (h : p (by8 l 0) = true) (h0 : by8 l 0 ≠ 0) : 0 < rowN p l := by
  cases l with
  | nil => exact absurd rfl h0
  | cons c r =>
    rw [by8_zero] at h
    simp [rowN, h]
/-- A token that is read has at least one byte, and no more than there are; its sort is one of three. -/
theorem tok_some {l : List UInt8} (h : (tokO l).err = 0) : 0 < (tokO l).n ∧ (tokO l).n ≤ l.length ∧ ((tokO l).tok.sort = 1 ∨ (tokO l).tok.sort = 2 ∨ (tokO l).tok.sort = 3) := by
  unfold tokO at h ⊢
  by_cases h1 : letB (by8 l 0) = true
  · rw [if_pos h1] at h ⊢
    unfold wordO at h ⊢
    by_cases h2 : 16 < rowN wordB l
    · rw [if_pos h2] at h; cases h
    · rw [if_neg h2]
      exact ⟨row_pos0 (letB_word h1) (letB_ne h1), rowN_le _ _, Or.inl rfl⟩
  rw [if_neg h1] at h ⊢
  by_cases h2 : (digB (by8 l 0) || (decide (by8 l 0 = 45) && digB (by8 l 1))) = true
  · rw [if_pos h2] at h ⊢
    unfold numberO at h ⊢
    by_cases h3 : by8 l 0 = 45
    · simp only [h3, decide_true, if_true] at h ⊢
      have hl : 0 < l.length := by8_pos (by rw [h3]; decide)
      generalize numO true _ = z at h ⊢
      cases z with
      | none => cases h
      | some v =>
        have := rowN_le digB (l.drop 1)
        rw [List.length_drop] at this
        exact ⟨by show 0 < 1 + _; omega, by show 1 + _ ≤ _; omega, Or.inr (Or.inl rfl)⟩
    · simp only [h3, decide_false, Bool.false_eq_true, if_false] at h ⊢
      have h4 : digB (by8 l 0) = true := by
        rw [decide_eq_false h3, Bool.false_and, Bool.or_false] at h2; exact h2
      generalize numO false _ = z at h ⊢
      cases z with
      | none => cases h
      | some v =>
        have := rowN_le digB l
        have hp := row_pos0 h4 (digB_ne0 h4)
        exact ⟨by show 0 < 0 + _; omega, by show 0 + _ ≤ _; omega, Or.inr (Or.inl rfl)⟩
  rw [if_neg h2] at h ⊢
  by_cases h3 : markB (by8 l 0) = true
  · rw [if_pos h3]
    exact ⟨by show 0 < 1; decide, by8_pos (markB_ne h3), Or.inr (Or.inr rfl)⟩
  rw [if_neg h3] at h ⊢
  by_cases h4 : (decide (by8 l 0 = 45) && decide (by8 l 1 = 62)) = true
  · rw [if_pos h4]
    rw [Bool.and_eq_true, decide_eq_true_iff, decide_eq_true_iff] at h4
    exact ⟨by show 0 < 2; decide, by8_pos (n := 1) (by rw [h4.2]; decide), Or.inr (Or.inr rfl)⟩
  · rw [if_neg h4] at h; cases h
theorem allF_fuel : ∀ (f g p : Nat) (l : List UInt8), l.length < f → l.length < g → allF f p l = allF g p l
  | 0, _, _, _, h, _ => by omega
  | f + 1, 0, _, _, _, h => by omega
  | f + 1, g + 1, p, l, hf, hg => by
    unfold allF
    simp only
    by_cases h1 : l.drop (skipN false l) = []
    · rw [if_pos h1, if_pos h1]
    · rw [if_neg h1, if_neg h1]
      by_cases h2 : (tokO (l.drop (skipN false l))).err = 0
      · rw [if_pos h2, if_pos h2]
        have h3 := tok_some h2
        have h4 : ((l.drop (skipN false l)).drop (tokO (l.drop (skipN false l))).n).length < l.length := by
          rw [List.length_drop]
          have : (l.drop (skipN false l)).length ≤ l.length := by rw [List.length_drop]; omega
          omega
        rw [allF_fuel f g _ _ (by omega) (by omega)]
      · rw [if_neg h2, if_neg h2]
/-- One token of a text, and the rest. -/
theorem allL_end {p : Nat} {l : List UInt8} (h : l.drop (skipN false l) = []) : allL p l = ⟨[⟨0, [], 0, ((p + skipN false l : Nat) : Int)⟩], 0, 0⟩ := by
  unfold allL allF
  simp only
  rw [if_pos h]
theorem allL_err {p : Nat} {l : List UInt8} (h : l.drop (skipN false l) ≠ []) (h2 : (tokO (l.drop (skipN false l))).err ≠ 0) : allL p l = ⟨[], (tokO (l.drop (skipN false l))).err, ((p + skipN false l : Nat) : Int)⟩ := by
  unfold allL allF
  simp only
  rw [if_neg h, if_neg h2]
theorem allL_tok {p : Nat} {l : List UInt8} (h : l.drop (skipN false l) ≠ []) (h2 : (tokO (l.drop (skipN false l))).err = 0) :
    allL p l = (allL (p + skipN false l + (tokO (l.drop (skipN false l))).n) (l.drop (skipN false l + (tokO (l.drop (skipN false l))).n))).cons { (tokO (l.drop (skipN false l))).tok with place := ((p + skipN false l : Nat) : Int) } := by
  have h3 := tok_some h2
  have e : allL p l = (allF l.length (p + skipN false l + (tokO (l.drop (skipN false l))).n) ((l.drop (skipN false l)).drop (tokO (l.drop (skipN false l))).n)).cons { (tokO (l.drop (skipN false l))).tok with place := ((p + skipN false l : Nat) : Int) } := by
    unfold allL
    rw [allF]
    simp only
    rw [if_neg h, if_pos h2]
  rw [e, List.drop_drop]
  unfold allL
  rw [allF_fuel _ ((l.drop (skipN false l + (tokO (l.drop (skipN false l))).n)).length + 1) _ _ ?_ (by omega)]
  have h5 : (l.drop (skipN false l)).length = l.length - skipN false l := List.length_drop
  rw [List.length_drop]
  omega
/-- Tokens ahead of what is answered. -/
def Got.app (ts : List Tok) (g : Got) : Got := if g.err = 0 then ⟨ts ++ g.toks, 0, 0⟩ else g
theorem app_nil (g : Got) (h : g.err = 0 → g.place = 0) : g.app [] = g := by
  unfold Got.app
  split
  · rename_i h0
    have := h h0
    cases g
    simp_all
  · rfl
theorem app_cons (ts : List Tok) (t : Tok) (g : Got) : (g.cons t).app ts = g.app (ts ++ [t]) := by
  unfold Got.app Got.cons
  by_cases h : g.err = 0
  · simp [h]
  · simp [h]
theorem allL_zero {p : Nat} {l : List UInt8} (he : (allL p l).err = 0) : (allL p l).place = 0 := by
  by_cases h : l.drop (skipN false l) = []
  · rw [allL_end h]
  · by_cases h2 : (tokO (l.drop (skipN false l))).err = 0
    · rw [allL_tok h h2] at he ⊢
      unfold Got.cons at he ⊢
      split
      · rfl
      · rename_i h3; rw [if_neg h3] at he; exact absurd he h3
    · rw [allL_err h h2] at he
      exact absurd he h2
end Go.Proofs.YthgblljokonejaaGreatDoor
