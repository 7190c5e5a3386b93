/- Texts of one chain, laid one behind the other. -/
import Derived.RowKit
import Derived.Lib.AtoiAll
/- Plain lists of bytes: what bytes are, blanks and remarks, tokens, a text's tokens. No program is named here. -/
namespace Go.Proofs.YthgblljokonejaaGreatDoor
open Go.RowKit

/-! ### What bytes are -/
def letB (b : Int) : Bool := decide (97 ≤ b) && decide (b ≤ 122)
def digB (b : Int) : Bool := decide (48 ≤ b) && decide (b ≤ 57)
def wordB (b : Int) : Bool := letB b || digB b || decide (b = 95)
def blankB (b : Int) : Bool := decide (b = 32) || decide (b = 9) || decide (b = 13) || decide (b = 10)
def remB (b : Int) : Bool := !decide (b = 10)
def markB (b : Int) : Bool := decide (b = 123) || decide (b = 125) || decide (b = 61) || decide (b = 59) || decide (b = 46)
/-- The byte at a place, 0 behind the end. -/
def by8 (l : List UInt8) (n : Nat) : Int := ((l.getD n 0).toNat : Int)
/-- How many bytes from the start on belong. -/
def rowN (p : Int → Bool) : List UInt8 → Nat
  | [] => 0
  | c :: r => if p (c.toNat : Int) then rowN p r + 1 else 0
theorem rowN_le (p : Int → Bool) : ∀ l, rowN p l ≤ l.length
  | [] => Nat.le_refl _
  | c :: r => by
    unfold rowN
    split
    · have := rowN_le p r; simp; omega
    · simp
theorem by8_nat (l : List UInt8) (n : Nat) : 0 ≤ by8 l n ∧ by8 l n ≤ 255 := by
  unfold by8
  have := (l.getD n 0).toNat_lt
  omega
theorem by8_zero (c : UInt8) (r : List UInt8) : by8 (c :: r) 0 = (c.toNat : Int) := rfl
theorem by8_succ (c : UInt8) (r : List UInt8) (n : Nat) : by8 (c :: r) (n + 1) = by8 r n := rfl
theorem by8_end {l : List UInt8} {n : Nat} (h : l.length ≤ n) : by8 l n = 0 := by
  unfold by8
  rw [List.getD_eq_getElem?_getD, List.getElem?_eq_none h]
  rfl
theorem by8_drop (l : List UInt8) (k n : Nat) : by8 (l.drop k) n = by8 l (k + n) := by
  unfold by8
  rw [List.getD_eq_getElem?_getD, List.getD_eq_getElem?_getD, List.getElem?_drop]
/-- All of a row belong; what follows does not. -/
theorem rowN_in (p : Int → Bool) : ∀ (l : List UInt8) (k : Nat), k < rowN p l → p (by8 l k) = true
  | [], k, h => by simp [rowN] at h
  | c :: r, k, h => by
    unfold rowN at h
    split at h
    · rename_i hc
      match k, h with
      | 0, _ => exact hc
      | k + 1, h => exact rowN_in p r k (by omega)
    · omega
theorem rowN_out (p : Int → Bool) : ∀ (l : List UInt8), rowN p l < l.length → p (by8 l (rowN p l)) = false
  | [], h => by simp at h
  | c :: r, h => by
    unfold rowN at h ⊢
    split
    · rename_i hc
      rw [if_pos hc] at h
      exact rowN_out p r (by simp at h; omega)
    · rename_i hc
      rw [by8_zero]
      simpa using hc
theorem rowN_least (p : Int → Bool) : ∀ (l : List UInt8) (k : Nat), k ≤ l.length → (∀ j, j < k → p (by8 l j) = true) → (k < l.length → p (by8 l k) = false) → k = rowN p l
  | [], k, h, _, _ => by simp at h; simp [rowN, h]
  | c :: r, 0, _, _, h2 => by
    have := h2 (by simp)
    unfold rowN
    rw [if_neg]
    intro h; rw [by8_zero] at this; rw [this] at h; cases h
  | c :: r, k + 1, h, h1, h2 => by
    have e := rowN_least p r k (by simp at h; omega) (fun j hj => h1 (j + 1) (by omega)) (fun hk => h2 (by simp; omega))
    have h0 := h1 0 (by omega)
    rw [by8_zero] at h0
    unfold rowN
    rw [if_pos h0, e]

/-! ### Blanks and remarks -/
/-- How many bytes of blanks and remarks stand ahead (in a remark, or not). -/
def skipN : Bool → List UInt8 → Nat
  | _, [] => 0
  | true, c :: r => if (c.toNat : Int) = 10 then skipN false r + 1 else skipN true r + 1
  | false, c :: r => if blankB (c.toNat : Int) then skipN false r + 1 else if (c.toNat : Int) = 35 then skipN true r + 1 else 0
theorem skipN_le : ∀ (m : Bool) (l : List UInt8), skipN m l ≤ l.length
  | m, [] => by cases m <;> simp [skipN]
  | true, c :: r => by
    unfold skipN
    have h1 := skipN_le false r; have h2 := skipN_le true r
    split <;> simp <;> omega
  | false, c :: r => by
    unfold skipN
    have h1 := skipN_le false r; have h2 := skipN_le true r
    split
    · simp; omega
    · split <;> simp <;> omega
theorem skip_blank : ∀ (l : List UInt8), skipN false l = rowN blankB l + skipN false (l.drop (rowN blankB l))
  | [] => by simp [skipN, rowN]
  | c :: r => by
    by_cases h : blankB (c.toNat : Int) = true
    · have e := skip_blank r
      have e1 : rowN blankB (c :: r) = rowN blankB r + 1 := by simp [rowN, h]
      have e2 : skipN false (c :: r) = skipN false r + 1 := by simp [skipN, h]
      rw [e1, e2, List.drop_succ_cons]; omega
    · have e1 : rowN blankB (c :: r) = 0 := by simp [rowN, h]
      rw [e1, List.drop_zero]; omega
theorem skip_rem : ∀ (l : List UInt8), skipN true l = rowN remB l + skipN false (l.drop (rowN remB l))
  | [] => by simp [skipN, rowN]
  | c :: r => by
    by_cases h : (c.toNat : Int) = 10
    · have e1 : rowN remB (c :: r) = 0 := by simp [rowN, remB, h]
      have e2 : skipN true (c :: r) = skipN false r + 1 := by simp [skipN, h]
      have e3 : skipN false (c :: r) = skipN false r + 1 := by simp [skipN, blankB, h]
      rw [e1, List.drop_zero, e2, e3]; omega
    · have e := skip_rem r
      have e1 : rowN remB (c :: r) = rowN remB r + 1 := by simp [rowN, remB, h]
      have e2 : skipN true (c :: r) = skipN true r + 1 := by simp [skipN, h]
      rw [e1, e2, List.drop_succ_cons]; omega
theorem skip_hash {l : List UInt8} (h : by8 l 0 = 35) : skipN false l = rowN remB l + skipN false (l.drop (rowN remB l)) := by
  cases l with
  | nil => simp [by8] at h
  | cons c r =>
    rw [by8_zero] at h
    have e1 : skipN false (c :: r) = skipN true r + 1 := by simp [skipN, blankB, h]
    have e2 : rowN remB (c :: r) = rowN remB r + 1 := by simp [rowN, remB, h]
    rw [e1, e2, List.drop_succ_cons, skip_rem r]; omega
theorem skip_none {l : List UInt8} (h1 : blankB (by8 l 0) = false) (h2 : by8 l 0 ≠ 35) : skipN false l = 0 := by
  cases l with
  | nil => rfl
  | cons c r =>
    rw [by8_zero] at h1 h2
    simp [skipN, h1, h2]
/-- Behind what is skipped stands no blank and no remark. -/
theorem skip_behind : ∀ (m : Bool) (l : List UInt8), blankB (by8 (l.drop (skipN m l)) 0) = false ∧ by8 (l.drop (skipN m l)) 0 ≠ 35
  | m, [] => by cases m <;> simp [skipN, by8, blankB]
  | true, c :: r => by
    unfold skipN
    split
    · exact skip_behind false r
    · exact skip_behind true r
  | false, c :: r => by
    by_cases hb : blankB (c.toNat : Int) = true
    · have e : skipN false (c :: r) = skipN false r + 1 := by rw [skipN, if_pos hb]
      rw [e, List.drop_succ_cons]; exact skip_behind false r
    · by_cases hh : (c.toNat : Int) = 35
      · have e : skipN false (c :: r) = skipN true r + 1 := by rw [skipN, if_neg hb, if_pos hh]
        rw [e, List.drop_succ_cons]; exact skip_behind true r
      · have e : skipN false (c :: r) = 0 := by rw [skipN, if_neg hb, if_neg hh]
        rw [e, List.drop_zero, by8_zero]
        exact ⟨by simpa using hb, hh⟩

/-! ### Numbers -/
def decV : Int → List UInt8 → Int
  | a, [] => a
  | a, c :: r => decV (a * 10 + ((c.toNat : Int) - 48)) r
def fits8 (x : Int) : Bool := decide (-9223372036854775808 ≤ x) && decide (x ≤ 9223372036854775807)
/-- Is a row of digits in the one form? -/
def oneB (neg : Bool) (ds : List UInt8) : Bool := !decide (by8 ds 0 = 48) || (decide (ds.length = 1) && !neg)
def signed (neg : Bool) (x : Int) : Int := if neg then -x else x
/-- What a number is read as: nothing where it is not in the one form, or does not fit. -/
def numO (neg : Bool) (ds : List UInt8) : Option Int := if oneB neg ds && fits8 (signed neg (decV 0 ds)) then some (signed neg (decV 0 ds)) else none

/-! ### One token -/
structure Tok where
  sort : Int
  text : List UInt8
  num : Int
  place : Int
/-- What a token is that begins here (but for its place), the error (0: none), how many bytes belong to it. -/
structure One where
  tok : Tok
  err : Int
  n : Nat
def noTok : Tok := ⟨0, [], 0, 0⟩
def wordO (l : List UInt8) : One := if 16 < rowN wordB l then ⟨noTok, 42, 0⟩ else ⟨⟨1, l.take (rowN wordB l), 0, 0⟩, 0, rowN wordB l⟩
def numberO (l : List UInt8) : One :=
  let neg := decide (by8 l 0 = 45)
  let r := if neg then l.drop 1 else l
  match numO neg (r.take (rowN digB r)) with
  | none => ⟨noTok, 41, 0⟩
  | some v => ⟨⟨2, [], v, 0⟩, 0, (if neg then 1 else 0) + rowN digB r⟩
def markO (l : List UInt8) (n : Nat) : One := ⟨⟨3, l.take n, 0, 0⟩, 0, n⟩
def tokO (l : List UInt8) : One :=
  if letB (by8 l 0) then wordO l
  else if digB (by8 l 0) || (decide (by8 l 0 = 45) && digB (by8 l 1)) then numberO l
  else if markB (by8 l 0) then markO l 1
  else if decide (by8 l 0 = 45) && decide (by8 l 1 = 62) then markO l 2
  else ⟨noTok, 40, 0⟩

/-! ### A text's tokens -/
structure Got where
  toks : List Tok
  err : Int
  place : Int
def Got.cons (t : Tok) (g : Got) : Got := if g.err = 0 then ⟨t :: g.toks, 0, 0⟩ else g
def allF : Nat → Nat → List UInt8 → Got
  | 0, _, _ => ⟨[], 0, 0⟩
  | f + 1, p, l =>
    let k := skipN false l
    let r := l.drop k
    if r = [] then ⟨[⟨0, [], 0, ((p + k : Nat) : Int)⟩], 0, 0⟩
    else
      let o := tokO r
      if o.err = 0 then (allF f (p + k + o.n) (r.drop o.n)).cons { o.tok with place := ((p + k : Nat) : Int) }
      else ⟨[], o.err, ((p + k : Nat) : Int)⟩
def allL (p : Nat) (l : List UInt8) : Got := allF (l.length + 1) p l
/-- What is answered of a text. -/
def textG (l : List UInt8) : Got := if 1048576 < l.length then ⟨[], 2, 1048576⟩ else allL 0 l
end Go.Proofs.YthgblljokonejaaGreatDoor
