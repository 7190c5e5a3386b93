/- Texts of one chain. -/
import Derived.RowKit
import Derived.Lib.AtoiAll
namespace Go.Proofs.Ytgoconkleicmkaa
open Go.RowKit
def qL (b : Int) : Bool := decide (97 <= b) && decide (b <= 122)
def jQ (b : Int) : Bool := decide (48 <= b) && decide (b <= 57)
def vY (b : Int) : Bool := qL b || jQ b || decide (b = 95)
def oX (l : List UInt8) (n : Nat) : Int := ((l.getD n 0).toNat : Int)
def vT (p : Int -> Bool) : List UInt8 -> Nat
 | [] => 0
 | c :: r => if p (c.toNat : Int) then vT p r + 1 else 0
theorem nN (p : Int -> Bool) : ∀ l, vT p l <= l.length
 | [] => Nat.le_refl _
 | c :: r => by
  unfold vT
  split
  ·have := nN p r; simp; omega
  simp
theorem aZ (c : UInt8) (r : List UInt8) : oX (c :: r) 0 = (c.toNat : Int) := rfl
theorem YC {l : List UInt8} {n : Nat} (h : l.length <= n) : oX l n = 0 := by
 unfold oX
 rw [List.getD_eq_getElem?_getD, List.getElem?_eq_none h]
 rfl
theorem mZ (l : List UInt8) (k n : Nat) : oX (l.drop k) n = oX l (k + n) := by
 unfold oX
 rw [List.getD_eq_getElem?_getD, List.getD_eq_getElem?_getD, List.getElem?_drop]
theorem jP (p : Int -> Bool) : ∀ (l : List UInt8) (k : Nat), k < vT p l -> p (oX l k) = true
 | [], k, h => by simp [vT] at h
 | c :: r, k, h => by
  unfold vT at h
  split at h
  ·rename_i hc
   match k, h with
   | 0, _ => exact hc
   | k + 1, h => exact jP p r k (by omega)
  omega
theorem mY (p : Int -> Bool) : ∀ (l : List UInt8), vT p l < l.length -> p (oX l (vT p l)) = false
 | [], h => by simp at h
 | c :: r, h => by
  unfold vT at h ⊢
  split
  ·rename_i hc
   rw [if_pos hc] at h
   exact mY p r (by simp at h; omega)
  rename_i hc
  rw [aZ]
  simpa using hc
structure Tok where
 sort : Int
 text : List UInt8
 num : Int
 place : Int
structure One where
 tok : Tok
 err : Int
 n : Nat
structure Got where
 toks : List Tok
 err : Int
 place : Int
def Got.cons (t : Tok) (g : Got) : Got := if g.err = 0 then ⟨t :: g.toks, 0, 0⟩ else g
end Go.Proofs.Ytgoconkleicmkaa
