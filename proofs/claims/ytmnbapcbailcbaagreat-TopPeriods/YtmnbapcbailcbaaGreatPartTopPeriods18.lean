/- Texts of one chain, laid one behind the other. -/
import Derived.Test.YtmnbapcbailcbaaGreatPartTopPeriods16
import Derived.Laws.Strings
import Derived.Test.YtmnbapcbailcbaaGreatPartTopPeriods13
namespace Go.Proofs.YtmnbapcbailcbaaGreat
open Go.ChangeShapes Go.WideShapes Go.ChangeAt Go.RowKit
def wordS (t : Nat) : List UInt8 :=
  match t with
  | 1 => [102, 105, 108, 116, 101, 114]
  | 2 => [117, 112]
  | 3 => [100, 111, 119, 110]
  | 4 => [119, 101, 97, 118, 101]
  | 5 => [117, 110, 119, 101, 97, 118, 101]
  | 6 => [97, 100, 100]
  | 7 => [113, 117, 111, 116]
  | 8 => [115, 117, 109]
  | 9 => [99, 111, 112, 121]
  | 10 => [116, 105, 99, 107]
  | 11 => [100, 114, 111, 112]
  | _ => []
/-- The tag of a word, and the error's number, looked for from a tag on. -/
def tagG : Nat → Nat → List UInt8 → Nat × Int
  | 0, _, _ => (0, 60)
  | f + 1, t, x => if wordS t = x then (t, 0) else tagG f (t + 1) x
def tagS (x : List UInt8) : Nat × Int := tagG 11 1 x
def tot : List Int → Int
  | [] => 0
  | x :: r => x + tot r
theorem tot_rep (x : Int) : ∀ n : Nat, tot (List.replicate n x) = (n : Int) * x
  | 0 => by show (0 : Int) = ((0 : Nat) : Int) * x; simp
  | n + 1 => by
    show x + tot (List.replicate n x) = ((n + 1 : Nat) : Int) * x
    rw [tot_rep x n, Int.natCast_add, Int.add_mul]
    omega
structure SmallH (P : List Int) : Prop where
  len : P.length ≤ 16
  each : ∀ x ∈ P, 1 ≤ x ∧ x ≤ 64
  sum : 0 ≤ tot P ∧ tot P ≤ 64
theorem small_nil : SmallH [] := ⟨by decide, (fun x h => by cases h), ⟨by decide, by decide⟩⟩
theorem small_one {x : Int} (h : 1 ≤ x ∧ x ≤ 64) : SmallH [x] := ⟨by simp, (fun y hy => by simp at hy; subst hy; exact h), by show 0 ≤ x + 0 ∧ x + 0 ≤ 64; omega⟩
theorem small_rep {n x : Int} (h : 1 ≤ n ∧ n ≤ 16) (h2 : 1 ≤ x ∧ x ≤ 64) (h3 : n * x ≤ 64) : SmallH (rep n x) := by
  have hp := (mul_bound h h2).1
  unfold rep
  refine ⟨by rw [List.length_replicate]; omega, fun y hy => by rw [List.eq_of_mem_replicate hy]; exact h2, ?_⟩
  rw [tot_rep, show ((n.toNat : Nat) : Int) = n by omega]
  omega
theorem tot_rep_pos {n x : Int} (h : 1 ≤ n ∧ n ≤ 16) (h2 : 1 ≤ x ∧ x ≤ 64) : 0 < tot (rep n x) := by
  have hp := (mul_bound h h2).1
  unfold rep
  rw [tot_rep, show ((n.toNat : Nat) : Int) = n by omega]
  omega
theorem ok_prod {zs : List Int} (h : (decide (zs.length = 2) && wovenB (nth zs 0) (nth zs 1)) = true) : nth zs 0 * nth zs 1 ≤ 64 := by
  unfold wovenB at h
  rw [Bool.and_eq_true, Bool.and_eq_true, Bool.and_eq_true, decide_eq_true_iff, decide_eq_true_iff] at h
  exact h.2.2.2
def FineR (P Q : List Int) : Prop := SmallH P ∧ SmallH Q ∧ 0 < tot P + tot Q
theorem one_ok : SmallH [1] := small_one (by decide)
theorem two_ones : SmallH [1, 1] := ⟨by decide, by decide, ⟨by decide, by decide⟩⟩
theorem add_pos6 {P Q : List Int} (h1 : SmallH P) (h2 : SmallH Q) (h : 0 < tot P ∨ 0 < tot Q) : FineR P Q := ⟨h1, h2, by have := h1.sum; have := h2.sum; omega⟩
theorem pos_one : 0 < tot [1] := by decide
theorem rates_small : ∀ t, 1 ≤ t ∧ t ≤ 11 → ∀ zs, okS t zs = true → FineR (insS t zs) (outsS t zs) := by
  refine eleven ?_ ?_ ?_ ?_ ?_ ?_ ?_ ?_ ?_ ?_ ?_
  · exact fun zs _ => add_pos6 one_ok one_ok (.inl pos_one)
  · exact fun zs h => add_pos6 one_ok (small_one (ok_one rfl h).2) (.inl pos_one)
  · exact fun zs h => add_pos6 (small_one (ok_one rfl h).2) one_ok (.inr pos_one)
  · intro zs h
    have h2 := (ok_two rfl h).2
    exact add_pos6 (small_rep h2.1 h2.2 (ok_prod h)) (small_one ⟨(mul_bound h2.1 h2.2).1, ok_prod h⟩) (.inl (tot_rep_pos h2.1 h2.2))
  · intro zs h
    have h2 := (ok_two rfl h).2
    exact add_pos6 (small_one ⟨(mul_bound h2.1 h2.2).1, ok_prod h⟩) (small_rep h2.1 h2.2 (ok_prod h)) (.inr (tot_rep_pos h2.1 h2.2))
  · intro zs h
    have h2 := (ok_one rfl h).2
    exact add_pos6 (small_rep h2 (by decide) (by omega)) one_ok (.inr pos_one)
  · exact fun zs _ => add_pos6 two_ones one_ok (.inr pos_one)
  · exact fun zs _ => add_pos6 one_ok one_ok (.inl pos_one)
  · intro zs h
    have h2 := (ok_one rfl h).2
    exact add_pos6 one_ok (small_rep h2 (by decide) (by omega)) (.inl pos_one)
  · exact fun zs _ => add_pos6 small_nil one_ok (.inr pos_one)
  · intro zs h
    have h2 := (ok_one rfl h).2
    exact add_pos6 (small_one h2) small_nil (.inl (by show 0 < nth zs 0 + 0; omega))
/-! ### Turned about -/
end Go.Proofs.YtmnbapcbailcbaaGreat
