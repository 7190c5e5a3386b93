/- Texts of one chain, laid one behind the other. -/
import Derived.RowKit
import Derived.Lib.AtoiAll
namespace Go.Proofs.YtmnbapcbailcbaaGreat
open Go.RowKit
/-! ### What bytes are -/
def letB (b : Int) : Bool := decide (97 ≤ b) && decide (b ≤ 122)
def digB (b : Int) : Bool := decide (48 ≤ b) && decide (b ≤ 57)
def wordB (b : Int) : Bool := letB b || digB b || decide (b = 95)
/-- The byte at a place, 0 behind the end. -/
def by8 (l : List UInt8) (n : Nat) : Int := ((l.getD n 0).toNat : Int)
/-- How many bytes from the start on belong. -/
def rowN (p : Int → Bool) : List UInt8 → Nat
  | [] => 0
  | c :: r => if p (c.toNat : Int) then rowN p r + 1 else 0
theorem rowN_le (p : Int → Bool) : ∀ l, rowN p l ≤ l.length
  | [] => Nat.le_refl _
  | c :: r => by
    unfold rowN
    split
    · have := rowN_le p r; simp; omega
    · simp
theorem by8_zero (c : UInt8) (r : List UInt8) : by8 (c :: r) 0 = (c.toNat : Int) := rfl
theorem by8_end {l : List UInt8} {n : Nat} (h : l.length ≤ n) : by8 l n = 0 := by
  unfold by8
  rw [List.getD_eq_getElem?_getD, List.getElem?_eq_none h]
  rfl
theorem by8_drop (l : List UInt8) (k n : Nat) : by8 (l.drop k) n = by8 l (k + n) := by
  unfold by8
  rw [List.getD_eq_getElem?_getD, List.getD_eq_getElem?_getD, List.getElem?_drop]
/-- All of a row belong; what follows does not. -/
theorem rowN_in (p : Int → Bool) : ∀ (l : List UInt8) (k : Nat), k < rowN p l → p (by8 l k) = true
  | [], k, h => by simp [rowN] at h
  | c :: r, k, h => by
    unfold rowN at h
    split at h
    · rename_i hc
      match k, h with
      | 0, _ => exact hc
      | k + 1, h => exact rowN_in p r k (by omega)
    · omega
theorem rowN_out (p : Int → Bool) : ∀ (l : List UInt8), rowN p l < l.length → p (by8 l (rowN p l)) = false
  | [], h => by simp at h
  | c :: r, h => by
    unfold rowN at h ⊢
    split
    · rename_i hc
      rw [if_pos hc] at h
      exact rowN_out p r (by simp at h; omega)
    · rename_i hc
      rw [by8_zero]
      simpa using hc
/-! ### Blanks and remarks -/
/-! ### Numbers -/
/-! ### One token -/
structure Tok where
  sort : Int
  text : List UInt8
  num : Int
  place : Int
/-- What a token is that begins here (but for its place), the error (0: none), how many bytes belong to it. -/
structure One where
  tok : Tok
  err : Int
  n : Nat
/-! ### A text's tokens -/
structure Got where
  toks : List Tok
  err : Int
  place : Int
def Got.cons (t : Tok) (g : Got) : Got := if g.err = 0 then ⟨t :: g.toks, 0, 0⟩ else g
end Go.Proofs.YtmnbapcbailcbaaGreat
