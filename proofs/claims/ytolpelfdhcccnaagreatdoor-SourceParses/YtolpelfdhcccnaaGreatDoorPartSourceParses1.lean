/- Texts of one chain, laid one behind the other. -/
import Derived.RowKit
import Derived.Lib.AtoiAll
namespace Go.Proofs.YtolpelfdhcccnaaGreatDoor
open Go.RowKit
/-! ### What bytes are -/
def letB (b : Int) : Bool := decide (97 ≤ b) && decide (b ≤ 122)
def digB (b : Int) : Bool := decide (48 ≤ b) && decide (b ≤ 57)
def wordB (b : Int) : Bool := letB b || digB b || decide (b = 95)
def blankB (b : Int) : Bool := decide (b = 32) || decide (b = 9) || decide (b = 13) || decide (b = 10)
def remB (b : Int) : Bool := !decide (b = 10)
def markB (b : Int) : Bool := decide (b = 123) || decide (b = 125) || decide (b = 61) || decide (b = 59) || decide (b = 46)
/-- The byte at a place, 0 behind the end. -/
def by8 (l : List UInt8) (n : Nat) : Int := ((l.getD n 0).toNat : Int)
/-- How many bytes from the start on belong. -/
def rowN (p : Int → Bool) : List UInt8 → Nat
  | [] => 0
  | c :: r => if p (c.toNat : Int) then rowN p r + 1 else 0
theorem rowN_le (p : Int → Bool) : ∀ l, rowN p l ≤ l.length
  | [] => Nat.le_refl _
  | c :: r => by
    unfold rowN
    split
    · have := rowN_le p r; simp; omega
    · simp
theorem by8_zero (c : UInt8) (r : List UInt8) : by8 (c :: r) 0 = (c.toNat : Int) := rfl
theorem by8_end {l : List UInt8} {n : Nat} (h : l.length ≤ n) : by8 l n = 0 := by
  unfold by8
  rw [List.getD_eq_getElem?_getD, List.getElem?_eq_none h]
  rfl
theorem by8_drop (l : List UInt8) (k n : Nat) : by8 (l.drop k) n = by8 l (k + n) := by
  unfold by8
  rw [List.getD_eq_getElem?_getD, List.getD_eq_getElem?_getD, List.getElem?_drop]
/-- All of a row belong; what follows does not. -/
theorem rowN_in (p : Int → Bool) : ∀ (l : List UInt8) (k : Nat), k < rowN p l → p (by8 l k) = true
  | [], k, h => by simp [rowN] at h
  | c :: r, k, h => by
    unfold rowN at h
    split at h
    · rename_i hc
      match k, h with
      | 0, _ => exact hc
      | k + 1, h => exact rowN_in p r k (by omega)
    · omega
theorem rowN_out (p : Int → Bool) : ∀ (l : List UInt8), rowN p l < l.length → p (by8 l (rowN p l)) = false
  | [], h => by simp at h
  | c :: r, h => by
    unfold rowN at h ⊢
    split
    · rename_i hc
      rw [if_pos hc] at h
      exact rowN_out p r (by simp at h; omega)
    · rename_i hc
      rw [by8_zero]
      simpa using hc
/-! ### Blanks and remarks -/
/-- How many bytes of blanks and remarks stand ahead (in a remark, or not). -/
def skipN : Bool → List UInt8 → Nat
  | _, [] => 0
  | true, c :: r => if (c.toNat : Int) = 10 then skipN false r + 1 else skipN true r + 1
  | false, c :: r => if blankB (c.toNat : Int) then skipN false r + 1 else if (c.toNat : Int) = 35 then skipN true r + 1 else 0
theorem skipN_le : ∀ (m : Bool) (l : List UInt8), skipN m l ≤ l.length
  | m, [] => by cases m <;> simp [skipN]
  | true, c :: r => by
    unfold skipN
    have h1 := skipN_le false r; have h2 := skipN_le true r
    split <;> simp <;> omega
  | false, c :: r => by
    unfold skipN
    have h1 := skipN_le false r; have h2 := skipN_le true r
    split
    · simp; omega
    · split <;> simp <;> omega
theorem skip_blank : ∀ (l : List UInt8), skipN false l = rowN blankB l + skipN false (l.drop (rowN blankB l))
  | [] => by simp [skipN, rowN]
  | c :: r => by
    by_cases h : blankB (c.toNat : Int) = true
    · have e := skip_blank r
      have e1 : rowN blankB (c :: r) = rowN blankB r + 1 := by simp [rowN, h]
      have e2 : skipN false (c :: r) = skipN false r + 1 := by simp [skipN, h]
      rw [e1, e2, List.drop_succ_cons]; omega
    · have e1 : rowN blankB (c :: r) = 0 := by simp [rowN, h]
      rw [e1, List.drop_zero]; omega
theorem skip_rem : ∀ (l : List UInt8), skipN true l = rowN remB l + skipN false (l.drop (rowN remB l))
  | [] => by simp [skipN, rowN]
  | c :: r => by
    by_cases h : (c.toNat : Int) = 10
    · have e1 : rowN remB (c :: r) = 0 := by simp [rowN, remB, h]
      have e2 : skipN true (c :: r) = skipN false r + 1 := by simp [skipN, h]
      have e3 : skipN false (c :: r) = skipN false r + 1 := by simp [skipN, blankB, h]
      rw [e1, List.drop_zero, e2, e3]; omega
    · have e := skip_rem r
      have e1 : rowN remB (c :: r) = rowN remB r + 1 := by simp [rowN, remB, h]
      have e2 : skipN true (c :: r) = skipN true r + 1 := by simp [skipN, h]
      rw [e1, e2, List.drop_succ_cons]; omega
theorem skip_hash {l : List UInt8} (h : by8 l 0 = 35) : skipN false l = rowN remB l + skipN false (l.drop (rowN remB l)) := by
  cases l with
  | nil => simp [by8] at h
  | cons c r =>
    rw [by8_zero] at h
    have e1 : skipN false (c :: r) = skipN true r + 1 := by simp [skipN, blankB, h]
    have e2 : rowN remB (c :: r) = rowN remB r + 1 := by simp [rowN, remB, h]
    rw [e1, e2, List.drop_succ_cons, skip_rem r]; omega
theorem skip_none {l : List UInt8} (h1 : blankB (by8 l 0) = false) (h2 : by8 l 0 ≠ 35) : skipN false l = 0 := by
  cases l with
  | nil => rfl
  | cons c r =>
    rw [by8_zero] at h1 h2
    simp [skipN, h1, h2]
/-! ### Numbers -/
def decV : Int → List UInt8 → Int
  | a, [] => a
  | a, c :: r => decV (a * 10 + ((c.toNat : Int) - 48)) r
def fits8 (x : Int) : Bool := decide (-9223372036854775808 ≤ x) && decide (x ≤ 9223372036854775807)
/-- Is a row of digits in the one form? -/
def oneB (neg : Bool) (ds : List UInt8) : Bool := !decide (by8 ds 0 = 48) || (decide (ds.length = 1) && !neg)
def signed (neg : Bool) (x : Int) : Int := if neg then -x else x
/-- What a number is read as: nothing where it is not in the one form, or does not fit. -/
def numO (neg : Bool) (ds : List UInt8) : Option Int := if oneB neg ds && fits8 (signed neg (decV 0 ds)) then some (signed neg (decV 0 ds)) else none
/-! ### One token -/
structure Tok where
  sort : Int
  text : List UInt8
  num : Int
  place : Int
/-- What a token is that begins here (but for its place), the error (0: none), how many bytes belong to it. -/
structure One where
  tok : Tok
  err : Int
  n : Nat
def noTok : Tok := ⟨0, [], 0, 0⟩
def wordO (l : List UInt8) : One := if 16 < rowN wordB l then ⟨noTok, 42, 0⟩ else ⟨⟨1, l.take (rowN wordB l), 0, 0⟩, 0, rowN wordB l⟩
def numberO (l : List UInt8) : One :=
  let neg := decide (by8 l 0 = 45)
  let r := if neg then l.drop 1 else l
  match numO neg (r.take (rowN digB r)) with
  | none => ⟨noTok, 41, 0⟩
  | some v => ⟨⟨2, [], v, 0⟩, 0, (if neg then 1 else 0) + rowN digB r⟩
def markO (l : List UInt8) (n : Nat) : One := ⟨⟨3, l.take n, 0, 0⟩, 0, n⟩
def tokO (l : List UInt8) : One :=
  if letB (by8 l 0) then wordO l
  else if digB (by8 l 0) || (decide (by8 l 0 = 45) && digB (by8 l 1)) then numberO l
  else if markB (by8 l 0) then markO l 1
  else if decide (by8 l 0 = 45) && decide (by8 l 1 = 62) then markO l 2
  else ⟨noTok, 40, 0⟩
/-! ### A text's tokens -/
structure Got where
  toks : List Tok
  err : Int
  place : Int
def Got.cons (t : Tok) (g : Got) : Got := if g.err = 0 then ⟨t :: g.toks, 0, 0⟩ else g
def allF : Nat → Nat → List UInt8 → Got
  | 0, _, _ => ⟨[], 0, 0⟩
  | f + 1, p, l =>
    let k := skipN false l
    let r := l.drop k
    if r = [] then ⟨[⟨0, [], 0, ((p + k : Nat) : Int)⟩], 0, 0⟩
    else
      let o := tokO r
      if o.err = 0 then (allF f (p + k + o.n) (r.drop o.n)).cons { o.tok with place := ((p + k : Nat) : Int) }
      else ⟨[], o.err, ((p + k : Nat) : Int)⟩
def allL (p : Nat) (l : List UInt8) : Got := allF (l.length + 1) p l
/-- What is answered of a text. -/
def textG (l : List UInt8) : Got := if 1048576 < l.length then ⟨[], 2, 1048576⟩ else allL 0 l
/-- All are digits. -/
def allD (ds : List UInt8) : Prop := ∀ c ∈ ds, 48 ≤ c.toNat ∧ c.toNat ≤ 57
theorem digB_nat {c : UInt8} : digB (c.toNat : Int) = true ↔ 48 ≤ c.toNat ∧ c.toNat ≤ 57 := by
  unfold digB
  rw [Bool.and_eq_true, decide_eq_true_iff, decide_eq_true_iff]
  omega
theorem allD_row : ∀ l : List UInt8, allD (l.take (rowN digB l))
  | [] => by intro c hc; simp at hc
  | c :: r => by
    unfold rowN
    by_cases h : digB (c.toNat : Int) = true
    · rw [if_pos h, List.take_succ_cons]
      intro d hd
      rcases List.mem_cons.1 hd with rfl | hd
      · exact digB_nat.1 h
      · exact allD_row r d hd
    · rw [if_neg h, List.take_zero]
      intro d hd; cases hd
theorem decV_ge : ∀ (ds : List UInt8) (a : Int), allD ds → 0 ≤ a → a ≤ decV a ds
  | [], a, _, _ => Int.le_refl _
  | c :: r, a, hd, ha => by
    have hc := hd c (by simp)
    have := decV_ge r (a * 10 + ((c.toNat : Int) - 48)) (fun d h => hd d (by simp [h])) (by omega)
    unfold decV
    omega
theorem uint_dec : ∀ (ds : List UInt8) (a : Nat), allD ds → a < 18446744073709551616 →
    Lib.parseUint10 a ds = if decV (a : Int) ds < 18446744073709551616 then .ok (decV (a : Int) ds).toNat else .range
  | [], a, _, ha => by
    have : ((a : Int) < 18446744073709551616) := by omega
    simp [Lib.parseUint10, decV, this]
  | c :: r, a, hd, ha => by
    have hc := hd c (by simp)
    have hr : allD r := fun d h => hd d (by simp [h])
    have ec : (a : Int) * 10 + ((c.toNat : Int) - 48) = ((a * 10 + (c.toNat - 48) : Nat) : Int) := by omega
    have hge := decV_ge r ((a * 10 + (c.toNat - 48) : Nat) : Int) hr (by omega)
    have ed : decV (a : Int) (c :: r) = decV ((a * 10 + (c.toNat - 48) : Nat) : Int) r := by rw [← ec]; rfl
    rw [ed, Lib.parseUint10, if_pos hc]
    by_cases h1 : 1844674407370955162 ≤ a
    · rw [if_pos h1, if_neg (by omega)]
    · rw [if_neg h1]
      by_cases h2 : 18446744073709551616 ≤ a * 10 + (c.toNat - 48)
      · rw [if_pos h2, if_neg (by omega)]
      · rw [if_neg h2]
        exact uint_dec r _ hr (by omega)
theorem atoi_plain {ds : List UInt8} (hne : ds ≠ []) (hd : allD ds) : Lib.atoiAll ds = if fits8 (decV 0 ds) then .ok (decV 0 ds) else .range := by
  cases ds with
  | nil => exact absurd rfl hne
  | cons c r =>
    have hc := hd c (by simp)
    have h0 := decV_ge (c :: r) 0 hd (by decide)
    have hu := uint_dec (c :: r) 0 hd (by decide)
    have e0 : ((0 : Nat) : Int) = 0 := rfl
    rw [e0] at hu
    generalize decV 0 (c :: r) = v at *
    have hn : ¬ c.toNat = 45 := by omega
    have hp : ¬ c.toNat = 43 := by omega
    simp only [Lib.atoiAll, hn, hp, or_self, if_false, Lib.parseMag]
    rw [if_neg (by simp), hu]
    unfold fits8
    by_cases h1 : v < 18446744073709551616
    · rw [if_pos h1]
      by_cases h2 : v ≤ 9223372036854775807
      · have a1 : (decide (-9223372036854775808 ≤ v) && decide (v ≤ 9223372036854775807)) = true := by simp; omega
        rw [if_pos a1]
        have t : ((v.toNat : Nat) : Int) = v := by omega
        have t2 : ¬ (9223372036854775808 ≤ v.toNat) := by omega
        simp [t, t2]
      · have a1 : (decide (-9223372036854775808 ≤ v) && decide (v ≤ 9223372036854775807)) = false := by simp; omega
        rw [if_neg (by rw [a1]; decide)]
        simp
        omega
    · rw [if_neg h1]
      have a1 : (decide (-9223372036854775808 ≤ v) && decide (v ≤ 9223372036854775807)) = false := by simp; omega
      rw [if_neg (by rw [a1]; decide)]
theorem atoi_minus {ds : List UInt8} (hne : ds ≠ []) (hd : allD ds) : Lib.atoiAll (45 :: ds) = if fits8 (-decV 0 ds) then .ok (-decV 0 ds) else .range := by
  have h0 := decV_ge ds 0 hd (by decide)
  have hu := uint_dec ds 0 hd (by decide)
  have e0 : ((0 : Nat) : Int) = 0 := rfl
  rw [e0] at hu
  generalize decV 0 ds = v at *
  have hn : (45 : UInt8).toNat = 45 := rfl
  simp only [Lib.atoiAll, hn, or_true, if_true, Lib.parseMag]
  rw [if_neg hne, hu]
  unfold fits8
  by_cases h1 : v < 18446744073709551616
  · rw [if_pos h1]
    by_cases h2 : -9223372036854775808 ≤ -v
    · have a1 : (decide (-9223372036854775808 ≤ -v) && decide (-v ≤ 9223372036854775807)) = true := by simp; omega
      rw [if_pos a1]
      have t : ((v.toNat : Nat) : Int) = v := by omega
      have t2 : ¬ (9223372036854775808 < v.toNat) := by omega
      simp [t, t2]
    · have a1 : (decide (-9223372036854775808 ≤ -v) && decide (-v ≤ 9223372036854775807)) = false := by simp; omega
      rw [if_neg (by rw [a1]; decide)]
      simp
      omega
  · rw [if_neg h1]
    have a1 : (decide (-9223372036854775808 ≤ -v) && decide (-v ≤ 9223372036854775807)) = false := by simp; omega
    rw [if_neg (by rw [a1]; decide)]
/-- The sign's own bytes. -/
def sgn (neg : Bool) : List UInt8 := if neg then [45] else []
theorem atoi_signed (neg : Bool) {ds : List UInt8} (hne : ds ≠ []) (hd : allD ds) : Lib.atoiAll (sgn neg ++ ds) = if fits8 (signed neg (decV 0 ds)) then .ok (signed neg (decV 0 ds)) else .range := by
  cases neg
  · exact atoi_plain hne hd
  · exact atoi_minus hne hd
theorem len_take_row (p : Int → Bool) (l : List UInt8) : (l.take (rowN p l)).length = rowN p l := by
  rw [List.length_take]
  have := rowN_le p l
  omega
theorem by8_pos {l : List UInt8} {n : Nat} (h : by8 l n ≠ 0) : n < l.length := by
  rcases Nat.lt_or_ge n l.length with h1 | h1
  · exact h1
  · exact absurd (by8_end h1) h
theorem letB_word {x : Int} (h : letB x = true) : wordB x = true := by unfold wordB; rw [h]; rfl
theorem letB_ne {x : Int} (h : letB x = true) : x ≠ 0 := by intro e; subst e; cases h
theorem digB_ne0 {x : Int} (h : digB x = true) : x ≠ 0 := by intro e; subst e; cases h
theorem markB_ne {x : Int} (h : markB x = true) : x ≠ 0 := by intro e; subst e; cases h
theorem row_pos0 {p : Int → Bool} {l : List UInt8} (h : p (by8 l 0) = true) (h0 : by8 l 0 ≠ 0) : 0 < rowN p l := by
  cases l with
  | nil => exact absurd rfl h0
  | cons c r =>
    rw [by8_zero] at h
    simp [rowN, h]
/-- A token that is read has at least one byte, and no more than there are; its sort is one of three. -/
theorem tok_some {l : List UInt8} (h : (tokO l).err = 0) : 0 < (tokO l).n ∧ (tokO l).n ≤ l.length ∧ ((tokO l).tok.sort = 1 ∨ (tokO l).tok.sort = 2 ∨ (tokO l).tok.sort = 3) := by
  unfold tokO at h ⊢
  by_cases h1 : letB (by8 l 0) = true
  · rw [if_pos h1] at h ⊢
    unfold wordO at h ⊢
    by_cases h2 : 16 < rowN wordB l
    · rw [if_pos h2] at h; cases h
    · rw [if_neg h2]
      exact ⟨row_pos0 (letB_word h1) (letB_ne h1), rowN_le _ _, Or.inl rfl⟩
  rw [if_neg h1] at h ⊢
  by_cases h2 : (digB (by8 l 0) || (decide (by8 l 0 = 45) && digB (by8 l 1))) = true
  · rw [if_pos h2] at h ⊢
    unfold numberO at h ⊢
    by_cases h3 : by8 l 0 = 45
    · simp only [h3, decide_true, if_true] at h ⊢
      have hl : 0 < l.length := by8_pos (by rw [h3]; decide)
      generalize numO true _ = z at h ⊢
      cases z with
      | none => cases h
      | some v =>
        have := rowN_le digB (l.drop 1)
        rw [List.length_drop] at this
        exact ⟨by show 0 < 1 + _; omega, by show 1 + _ ≤ _; omega, Or.inr (Or.inl rfl)⟩
    · simp only [h3, decide_false, Bool.false_eq_true, if_false] at h ⊢
      have h4 : digB (by8 l 0) = true := by
        rw [decide_eq_false h3, Bool.false_and, Bool.or_false] at h2; exact h2
      generalize numO false _ = z at h ⊢
      cases z with
      | none => cases h
      | some v =>
        have := rowN_le digB l
        have hp := row_pos0 h4 (digB_ne0 h4)
        exact ⟨by show 0 < 0 + _; omega, by show 0 + _ ≤ _; omega, Or.inr (Or.inl rfl)⟩
  rw [if_neg h2] at h ⊢
  by_cases h3 : markB (by8 l 0) = true
  · rw [if_pos h3]
    exact ⟨by show 0 < 1; decide, by8_pos (markB_ne h3), Or.inr (Or.inr rfl)⟩
  rw [if_neg h3] at h ⊢
  by_cases h4 : (decide (by8 l 0 = 45) && decide (by8 l 1 = 62)) = true
  · rw [if_pos h4]
    rw [Bool.and_eq_true, decide_eq_true_iff, decide_eq_true_iff] at h4
    exact ⟨by show 0 < 2; decide, by8_pos (n := 1) (by rw [h4.2]; decide), Or.inr (Or.inr rfl)⟩
  · rw [if_neg h4] at h; cases h
theorem allF_fuel : ∀ (f g p : Nat) (l : List UInt8), l.length < f → l.length < g → allF f p l = allF g p l
  | 0, _, _, _, h, _ => by omega
  | f + 1, 0, _, _, _, h => by omega
  | f + 1, g + 1, p, l, hf, hg => by
    unfold allF
    simp only
    by_cases h1 : l.drop (skipN false l) = []
    · rw [if_pos h1, if_pos h1]
    · rw [if_neg h1, if_neg h1]
      by_cases h2 : (tokO (l.drop (skipN false l))).err = 0
      · rw [if_pos h2, if_pos h2]
        have h3 := tok_some h2
        have h4 : ((l.drop (skipN false l)).drop (tokO (l.drop (skipN false l))).n).length < l.length := by
          rw [List.length_drop]
          have : (l.drop (skipN false l)).length ≤ l.length := by rw [List.length_drop]; omega
          omega
        rw [allF_fuel f g _ _ (by omega) (by omega)]
      · rw [if_neg h2, if_neg h2]
/-- One token of a text, and the rest. -/
theorem allL_end {p : Nat} {l : List UInt8} (h : l.drop (skipN false l) = []) : allL p l = ⟨[⟨0, [], 0, ((p + skipN false l : Nat) : Int)⟩], 0, 0⟩ := by
  unfold allL allF
  simp only
  rw [if_pos h]
theorem allL_err {p : Nat} {l : List UInt8} (h : l.drop (skipN false l) ≠ []) (h2 : (tokO (l.drop (skipN false l))).err ≠ 0) : allL p l = ⟨[], (tokO (l.drop (skipN false l))).err, ((p + skipN false l : Nat) : Int)⟩ := by
  unfold allL allF
  simp only
  rw [if_neg h, if_neg h2]
theorem allL_tok {p : Nat} {l : List UInt8} (h : l.drop (skipN false l) ≠ []) (h2 : (tokO (l.drop (skipN false l))).err = 0) :
    allL p l = (allL (p + skipN false l + (tokO (l.drop (skipN false l))).n) (l.drop (skipN false l + (tokO (l.drop (skipN false l))).n))).cons { (tokO (l.drop (skipN false l))).tok with place := ((p + skipN false l : Nat) : Int) } := by
  have h3 := tok_some h2
  have e : allL p l = (allF l.length (p + skipN false l + (tokO (l.drop (skipN false l))).n) ((l.drop (skipN false l)).drop (tokO (l.drop (skipN false l))).n)).cons { (tokO (l.drop (skipN false l))).tok with place := ((p + skipN false l : Nat) : Int) } := by
    unfold allL
    rw [allF]
    simp only
    rw [if_neg h, if_pos h2]
  rw [e, List.drop_drop]
  unfold allL
  rw [allF_fuel _ ((l.drop (skipN false l + (tokO (l.drop (skipN false l))).n)).length + 1) _ _ ?_ (by omega)]
  have h5 : (l.drop (skipN false l)).length = l.length - skipN false l := List.length_drop
  rw [List.length_drop]
  omega
/-- Tokens ahead of what is answered. -/
def Got.app (ts : List Tok) (g : Got) : Got := if g.err = 0 then ⟨ts ++ g.toks, 0, 0⟩ else g
theorem app_nil (g : Got) (h : g.err = 0 → g.place = 0) : g.app [] = g := by
  unfold Got.app
  split
  · rename_i h0
    have := h h0
    cases g
    simp_all
  · rfl
theorem app_cons (ts : List Tok) (t : Tok) (g : Got) : (g.cons t).app ts = g.app (ts ++ [t]) := by
  unfold Got.app Got.cons
  by_cases h : g.err = 0
  · simp [h]
  · simp [h]
theorem allL_zero {p : Nat} {l : List UInt8} (he : (allL p l).err = 0) : (allL p l).place = 0 := by
  by_cases h : l.drop (skipN false l) = []
  · rw [allL_end h]
  · by_cases h2 : (tokO (l.drop (skipN false l))).err = 0
    · rw [allL_tok h h2] at he ⊢
      unfold Got.cons at he ⊢
      split
      · rfl
      · rename_i h3; rw [if_neg h3] at he; exact absurd he h3
    · rw [allL_err h h2] at he
      exact absurd he h2
def dig (k : Nat) : UInt8 := UInt8.ofNat (48 + k)
theorem dig_nat {k : Nat} (h : k < 10) : (dig k).toNat = 48 + k := by
  unfold dig
  rw [UInt8.toNat_ofNat']
  omega
theorem dig_back {c : UInt8} (h : 48 ≤ c.toNat ∧ c.toNat ≤ 57) : dig (c.toNat - 48) = c := by
  apply UInt8.toNat.inj
  rw [dig_nat (by omega)]
  omega
def natF : Nat → Nat → List UInt8
  | 0, _ => []
  | f + 1, n => if n = 0 then [] else natF f (n / 10) ++ [dig (n % 10)]
/-- A number above 0 as text (0: nothing). -/
def natS (n : Nat) : List UInt8 := natF (n + 1) n
theorem natF_fuel : ∀ (f g n : Nat), n < f → n < g → natF f n = natF g n
  | 0, _, _, h, _ => by omega
  | _ + 1, 0, _, _, h => by omega
  | f + 1, g + 1, n, hf, hg => by
    unfold natF
    by_cases h : n = 0
    · rw [if_pos h, if_pos h]
    · rw [if_neg h, if_neg h, natF_fuel f g (n / 10) (by omega) (by omega)]
theorem natS_zero : natS 0 = [] := rfl
theorem natS_pos {n : Nat} (h : n ≠ 0) : natS n = natS (n / 10) ++ [dig (n % 10)] := by
  have e : natS n = natF n (n / 10) ++ [dig (n % 10)] := by
    unfold natS
    rw [natF, if_neg h]
  rw [e]
  unfold natS
  rw [natF_fuel n (n / 10 + 1) (n / 10) (by omega) (by omega)]
/-- A whole number as text. -/
def intS (v : Int) : List UInt8 := if v = 0 then [48] else sgn (decide (v < 0)) ++ natS v.natAbs
theorem decV_append : ∀ (xs ys : List UInt8) (a : Int), decV a (xs ++ ys) = decV (decV a xs) ys
  | [], _, _ => rfl
  | c :: r, ys, a => by rw [List.cons_append, decV, decV, decV_append r ys]
theorem natS_facts : ∀ (m n : Nat), n ≤ m → allD (natS n) ∧ decV 0 (natS n) = (n : Int) ∧ (0 < n → natS n ≠ [] ∧ by8 (natS n) 0 ≠ 48)
  | 0, n, h => by
    have : n = 0 := by omega
    subst this
    exact ⟨(fun c hc => by cases hc), rfl, (fun h => by omega)⟩
  | m + 1, n, h => by
    by_cases h0 : n = 0
    · subst h0
      exact ⟨(fun c hc => by cases hc), rfl, (fun h => by omega)⟩
    · obtain ⟨a1, a2, a3⟩ := natS_facts m (n / 10) (by omega)
      have hd := dig_nat (k := n % 10) (by omega)
      rw [natS_pos h0]
      refine ⟨?_, ?_, fun _ => ⟨by simp, ?_⟩⟩
      · intro c hc
        rcases List.mem_append.1 hc with hc | hc
        · exact a1 c hc
        · simp only [List.mem_cons, List.not_mem_nil, or_false] at hc
          subst hc
          rw [hd]; omega
      · rw [decV_append, a2]
        show (((n / 10 : Nat) : Int)) * 10 + (((dig (n % 10)).toNat : Int) - 48) = _
        rw [hd]; omega
      · by_cases h1 : n / 10 = 0
        · rw [h1, natS_zero, List.nil_append, by8_zero, hd]
          omega
        · obtain ⟨b1, b2⟩ := a3 (by omega)
          cases hc : natS (n / 10) with
          | nil => exact absurd hc b1
          | cons c r =>
            rw [hc] at b2
            exact b2
theorem natS_back : ∀ (m : Nat) (ds : List UInt8), ds.length ≤ m → ds ≠ [] → allD ds → by8 ds 0 ≠ 48 → natS (decV 0 ds).toNat = ds ∧ 0 < decV 0 ds
  | m, ds, hm, hne, hd, h48 => by
    rcases List.eq_nil_or_concat ds with h | ⟨xs, c, h⟩
    · exact absurd h hne
    · rw [List.concat_eq_append] at h
      subst h
      have hc := hd c (by simp)
      have hdx : allD xs := fun e he => hd e (by simp [he])
      rw [decV_append]
      have e1 : decV (decV 0 xs) [c] = decV 0 xs * 10 + ((c.toNat : Int) - 48) := rfl
      rw [e1]
      cases xs with
      | nil =>
        have e2 : decV 0 ([] : List UInt8) = 0 := rfl
        rw [e2]
        have h1 : (c.toNat : Int) ≠ 48 := h48
        have h2 : ((0 : Int) * 10 + ((c.toNat : Int) - 48)).toNat = c.toNat - 48 := by omega
        refine ⟨?_, by omega⟩
        rw [h2, natS_pos (by omega)]
        have h3 : (c.toNat - 48) / 10 = 0 := by omega
        have h4 : (c.toNat - 48) % 10 = c.toNat - 48 := by omega
        rw [h3, h4, natS_zero, dig_back hc]
      | cons d r =>
        match m, hm with
        | 0, hm => simp at hm
        | m + 1, hm =>
          obtain ⟨i1, i2⟩ := natS_back m (d :: r) (by simp at hm ⊢; omega) (by simp) hdx h48
          generalize decV 0 (d :: r) = v at *
          refine ⟨?_, by omega⟩
          have h2 : (v * 10 + ((c.toNat : Int) - 48)).toNat = v.toNat * 10 + (c.toNat - 48) := by omega
          rw [h2, natS_pos (by omega)]
          have h3 : (v.toNat * 10 + (c.toNat - 48)) / 10 = v.toNat := by omega
          have h4 : (v.toNat * 10 + (c.toNat - 48)) % 10 = c.toNat - 48 := by omega
          rw [h3, h4, i1, dig_back hc]
/-- What is read as a number is written as it stood. -/
theorem num_spelt {neg : Bool} {ds : List UInt8} {v : Int} (hne : ds ≠ []) (hd : allD ds) (h : numO neg ds = some v) : intS v = sgn neg ++ ds ∧ fits8 v = true := by
  unfold numO at h
  split at h
  · rename_i hc
    rw [Bool.and_eq_true] at hc
    obtain ⟨ho, hf⟩ := hc
    have hv : signed neg (decV 0 ds) = v := Option.some.inj h
    rw [hv] at hf
    refine ⟨?_, hf⟩
    by_cases h48 : by8 ds 0 = 48
    · unfold oneB at ho
      rw [decide_eq_true h48] at ho
      have ho2 : (decide (ds.length = 1) && !neg) = true := ho
      rw [Bool.and_eq_true, decide_eq_true_iff] at ho2
      obtain ⟨hl, hn⟩ := ho2
      have hn' : neg = false := by simpa using hn
      subst hn'
      match ds, hl with
      | [c], _ =>
        have hc : (c.toNat : Int) = 48 := h48
        have ec : c = 48 := by apply UInt8.toNat.inj; show c.toNat = 48; omega
        subst ec
        have : v = 0 := by rw [← hv]; rfl
        subst this
        rfl
    · obtain ⟨b1, b2⟩ := natS_back ds.length ds (Nat.le_refl _) hne hd h48
      unfold intS
      cases neg
      · have hv2 : decV 0 ds = v := hv
        rw [hv2] at b1 b2
        rw [if_neg (by omega), decide_eq_false (by omega)]
        have : v.natAbs = v.toNat := by omega
        rw [this, b1]
      · have hv2 : -(decV 0 ds) = v := hv
        rw [if_neg (by omega), decide_eq_true (by omega)]
        have : v.natAbs = (decV 0 ds).toNat := by omega
        rw [this, b1]
  · cases h
/-- A token as it is written. -/
def spelt (t : Tok) : List UInt8 := if t.sort = 2 then intS t.num else t.text
def markT (s : List UInt8) : Bool := decide (s = [123]) || decide (s = [125]) || decide (s = [61]) || decide (s = [59]) || decide (s = [46]) || decide (s = [45, 62])
theorem row_all (p : Int → Bool) : ∀ l : List UInt8, rowN p (l.take (rowN p l)) = rowN p l
  | [] => rfl
  | c :: r => by
    by_cases h : p (c.toNat : Int) = true
    · have e : ∀ r, rowN p (c :: r) = rowN p r + 1 := fun r => by rw [rowN, if_pos h]
      rw [e, List.take_succ_cons, e, row_all p r]
    · have e : ∀ r, rowN p (c :: r) = 0 := fun r => by rw [rowN, if_neg h]
      rw [e, List.take_zero]; rfl
theorem take_first {l : List UInt8} (h : l ≠ []) : ∃ c r, l = c :: r := by
  cases l with
  | nil => exact absurd rfl h
  | cons c r => exact ⟨c, r, rfl⟩
/-- What a token that is read is written as: just what stands there; and it is a token that may be. -/
theorem tok_spelt {r : List UInt8} (he : (tokO r).err = 0) : spelt (tokO r).tok = r.take (tokO r).n ∧
    (((tokO r).tok.sort = 1 ∧ (tokO r).tok.num = 0 ∧ (tokO r).tok.text.length ≤ 16 ∧ letB (by8 (tokO r).tok.text 0) = true ∧ rowN wordB (tokO r).tok.text = (tokO r).tok.text.length) ∨
     ((tokO r).tok.sort = 2 ∧ (tokO r).tok.text = [] ∧ fits8 (tokO r).tok.num = true) ∨
     ((tokO r).tok.sort = 3 ∧ (tokO r).tok.num = 0 ∧ markT (tokO r).tok.text = true)) := by
  by_cases h1 : letB (by8 r 0) = true
  · have e : tokO r = wordO r := by unfold tokO; rw [if_pos h1]
    rw [e] at he ⊢
    unfold wordO at he ⊢
    by_cases h2 : 16 < rowN wordB r
    · rw [if_pos h2] at he; cases he
    · rw [if_neg h2]
      have hp := row_pos0 (letB_word h1) (letB_ne h1)
      have hl : (r.take (rowN wordB r)).length = rowN wordB r := len_take_row _ _
      refine ⟨rfl, Or.inl ⟨rfl, rfl, by show (r.take (rowN wordB r)).length ≤ 16; omega, ?_, ?_⟩⟩
      · show letB (by8 (r.take (rowN wordB r)) 0) = true
        have : by8 (r.take (rowN wordB r)) 0 = by8 r 0 := by
          unfold by8
          rw [List.getD_eq_getElem?_getD, List.getD_eq_getElem?_getD, List.getElem?_take_of_lt hp]
        rw [this]; exact h1
      · show rowN wordB (r.take (rowN wordB r)) = (r.take (rowN wordB r)).length
        rw [row_all, hl]
  by_cases h2 : (digB (by8 r 0) || (decide (by8 r 0 = 45) && digB (by8 r 1))) = true
  · have e : tokO r = numberO r := by unfold tokO; rw [if_neg h1, if_pos h2]
    rw [e] at he ⊢
    unfold numberO at he ⊢
    by_cases h3 : by8 r 0 = 45
    · simp only [h3, decide_true, if_true] at he ⊢
      have hd1 : digB (by8 r 1) = true := by
        rw [h3] at h2
        have : digB 45 = false := rfl
        rw [this, decide_eq_true rfl, Bool.false_or, Bool.true_and] at h2
        exact h2
      have hpos : 0 < rowN digB (r.drop 1) := row_pos0 (by rw [by8_drop]; exact hd1) (by rw [by8_drop]; exact digB_ne0 hd1)
      have hne : (r.drop 1).take (rowN digB (r.drop 1)) ≠ [] := by
        intro e
        have := congrArg List.length e
        rw [len_take_row, List.length_nil] at this
        omega
      cases hz : numO true ((r.drop 1).take (rowN digB (r.drop 1))) with
      | none => rw [hz] at he; cases he
      | some v =>
        obtain ⟨a1, a2⟩ := num_spelt hne (allD_row _) hz
        refine ⟨?_, Or.inr (Or.inl ⟨rfl, rfl, a2⟩)⟩
        show intS v = r.take (1 + rowN digB (r.drop 1))
        rw [a1]
        obtain ⟨c, r2, rfl⟩ := take_first (l := r) (by intro e; subst e; simp [by8] at h3)
        have hc : (c.toNat : Int) = 45 := h3
        have ec : c = 45 := by apply UInt8.toNat.inj; show c.toNat = 45; omega
        subst ec
        rw [Nat.add_comm]
        rfl
    · simp only [h3, decide_false, Bool.false_eq_true, if_false] at he ⊢
      have hd0 : digB (by8 r 0) = true := by
        rw [decide_eq_false h3, Bool.false_and, Bool.or_false] at h2; exact h2
      have hpos : 0 < rowN digB r := row_pos0 hd0 (digB_ne0 hd0)
      have hne : r.take (rowN digB r) ≠ [] := by
        intro e
        have := congrArg List.length e
        rw [len_take_row, List.length_nil] at this
        omega
      cases hz : numO false (r.take (rowN digB r)) with
      | none => rw [hz] at he; cases he
      | some v =>
        obtain ⟨a1, a2⟩ := num_spelt hne (allD_row _) hz
        refine ⟨?_, Or.inr (Or.inl ⟨rfl, rfl, a2⟩)⟩
        show intS v = r.take (0 + rowN digB r)
        rw [a1, Nat.zero_add]
        rfl
  by_cases h3 : markB (by8 r 0) = true
  · have e : tokO r = markO r 1 := by unfold tokO; rw [if_neg h1, if_neg h2, if_pos h3]
    rw [e]
    refine ⟨rfl, Or.inr (Or.inr ⟨rfl, rfl, ?_⟩)⟩
    show markT (r.take 1) = true
    obtain ⟨c, r2, rfl⟩ := take_first (l := r) (by intro e; subst e; cases h3)
    rw [by8_zero] at h3
    have h4 : c = 123 ∨ c = 125 ∨ c = 61 ∨ c = 59 ∨ c = 46 := by
      unfold markB at h3
      simp only [Bool.or_eq_true, decide_eq_true_eq] at h3
      rcases h3 with (((h | h) | h) | h) | h
      · exact Or.inl (by apply UInt8.toNat.inj; show c.toNat = 123; omega)
      · exact Or.inr (Or.inl (by apply UInt8.toNat.inj; show c.toNat = 125; omega))
      · exact Or.inr (Or.inr (Or.inl (by apply UInt8.toNat.inj; show c.toNat = 61; omega)))
      · exact Or.inr (Or.inr (Or.inr (Or.inl (by apply UInt8.toNat.inj; show c.toNat = 59; omega))))
      · exact Or.inr (Or.inr (Or.inr (Or.inr (by apply UInt8.toNat.inj; show c.toNat = 46; omega))))
    rcases h4 with rfl | rfl | rfl | rfl | rfl <;> rfl
  by_cases h4 : (decide (by8 r 0 = 45) && decide (by8 r 1 = 62)) = true
  · have e : tokO r = markO r 2 := by unfold tokO; rw [if_neg h1, if_neg h2, if_neg h3, if_pos h4]
    rw [e]
    refine ⟨rfl, Or.inr (Or.inr ⟨rfl, rfl, ?_⟩)⟩
    show markT (r.take 2) = true
    rw [Bool.and_eq_true, decide_eq_true_iff, decide_eq_true_iff] at h4
    match r, h4 with
    | [], h4 => exact absurd h4.1 (by decide)
    | [c], h4 => exact absurd h4.2 (by simp [by8])
    | c :: d :: r, h4 =>
      have hc : (c.toNat : Int) = 45 := h4.1
      have hd : (d.toNat : Int) = 62 := h4.2
      have ec : c = 45 := by apply UInt8.toNat.inj; show c.toNat = 45; omega
      have ed : d = 62 := by apply UInt8.toNat.inj; show d.toNat = 62; omega
      subst ec
      subst ed
      rfl
  · exfalso
    have e : tokO r = ⟨noTok, 40, 0⟩ := by unfold tokO; rw [if_neg h1, if_neg h2, if_neg h3, if_neg h4]
    rw [e] at he; cases he
/-- A text's tokens further on. -/
def Tok.by (k : Nat) (t : Tok) : Tok := { t with place := t.place + (k : Int) }
theorem all_some : ∀ (n p : Nat) (x : List UInt8), x.length ≤ n → (allL p x).err = 0 → (allL p x).toks.length ≤ x.length + 1 ∧ (allL p x).toks ≠ []
  | n, p, x, hn, he => by
    by_cases h1 : x.drop (skipN false x) = []
    · rw [allL_end h1]; exact ⟨by simp, by simp⟩
    · by_cases h2 : (tokO (x.drop (skipN false x))).err = 0
      · match n, hn with
        | 0, hn => exact absurd (by rw [List.eq_nil_of_length_eq_zero (Nat.le_zero.1 hn)]; rfl) h1
        | n + 1, hn =>
          have h3 := tok_some h2
          have hlen : (x.drop (skipN false x)).length = x.length - skipN false x := List.length_drop
          have ih := all_some n (p + skipN false x + (tokO (x.drop (skipN false x))).n) (x.drop (skipN false x + (tokO (x.drop (skipN false x))).n)) (by rw [List.length_drop]; omega)
          rw [List.length_drop] at ih
          rw [allL_tok h1 h2] at he ⊢
          generalize allL (p + skipN false x + (tokO (x.drop (skipN false x))).n) (x.drop (skipN false x + (tokO (x.drop (skipN false x))).n)) = g at *
          unfold Got.cons at he ⊢
          by_cases hg : g.err = 0
          · rw [if_pos hg]
            have := (ih hg).1
            exact ⟨by show (_ :: g.toks).length ≤ _; simp; omega, by simp⟩
          · rw [if_neg hg] at he; exact absurd he hg
      · rw [allL_err h1 h2] at he; exact absurd he h2
end Go.Proofs.YtolpelfdhcccnaaGreatDoor
