/- Texts of one chain, laid one behind the other. -/
import Derived.Test.YthgblljokonejaaGreatDoorChain1
/- Plain rows of digits: what strconv.Atoi makes of them. No program is named here. -/
namespace Go.Proofs.YthgblljokonejaaGreatDoor
open Go.RowKit

/-- All are digits. -/
def allD (ds : List UInt8) : Prop := ∀ c ∈ ds, 48 ≤ c.toNat ∧ c.toNat ≤ 57
theorem digB_nat {c : UInt8} : digB (c.toNat : Int) = true ↔ 48 ≤ c.toNat ∧ c.toNat ≤ 57 := by
  unfold digB
  rw [Bool.and_eq_true, decide_eq_true_iff, decide_eq_true_iff]
  omega
theorem allD_row : ∀ l : List UInt8, allD (l.take (rowN digB l))
  | [] => by intro c hc; simp at hc
  | c :: r => by
    unfold rowN
    by_cases h : digB (c.toNat : Int) = true
    · rw [if_pos h, List.take_succ_cons]
      intro d hd
      rcases List.mem_cons.1 hd with rfl | hd
      · exact digB_nat.1 h
      · exact allD_row r d hd
    · rw [if_neg h, List.take_zero]
      intro d hd; cases hd
theorem decV_ge : ∀ (ds : List UInt8) (a : Int), allD ds → 0 ≤ a → a ≤ decV a ds
  | [], a, _, _ => Int.le_refl _
  | c :: r, a, hd, ha => by
    have hc := hd c (by simp)
    have := decV_ge r (a * 10 + ((c.toNat : Int) - 48)) (fun d h => hd d (by simp [h])) (by omega)
    unfold decV
    omega
theorem uint_dec : ∀ (ds : List UInt8) (a : Nat), allD ds → a < 18446744073709551616 →
    Lib.parseUint10 a ds = if decV (a : Int) ds < 18446744073709551616 then .ok (decV (a : Int) ds).toNat else .range
  | [], a, _, ha => by
    have : ((a : Int) < 18446744073709551616) := by omega
    simp [Lib.parseUint10, decV, this]
  | c :: r, a, hd, ha => by
    have hc := hd c (by simp)
    have hr : allD r := fun d h => hd d (by simp [h])
    have ec : (a : Int) * 10 + ((c.toNat : Int) - 48) = ((a * 10 + (c.toNat - 48) : Nat) : Int) := by omega
    have hge := decV_ge r ((a * 10 + (c.toNat - 48) : Nat) : Int) hr (by omega)
    have ed : decV (a : Int) (c :: r) = decV ((a * 10 + (c.toNat - 48) : Nat) : Int) r := by rw [← ec]; rfl
    rw [ed, Lib.parseUint10, if_pos hc]
    by_cases h1 : 1844674407370955162 ≤ a
    · rw [if_pos h1, if_neg (by omega)]
    · rw [if_neg h1]
      by_cases h2 : 18446744073709551616 ≤ a * 10 + (c.toNat - 48)
      · rw [if_pos h2, if_neg (by omega)]
      · rw [if_neg h2]
        exact uint_dec r _ hr (by omega)
theorem atoi_plain {ds : List UInt8} (hne : ds ≠ []) (hd : allD ds) : Lib.atoiAll ds = if fits8 (decV 0 ds) then .ok (decV 0 ds) else .range := by
  cases ds with
  | nil => exact absurd rfl hne
  | cons c r =>
    have hc := hd c (by simp)
    have h0 := decV_ge (c :: r) 0 hd (by decide)
    have hu := uint_dec (c :: r) 0 hd (by decide)
    have e0 : ((0 : Nat) : Int) = 0 := rfl
    rw [e0] at hu
    generalize decV 0 (c :: r) = v at *
    have hn : ¬ c.toNat = 45 := by omega
    have hp : ¬ c.toNat = 43 := by omega
    simp only [Lib.atoiAll, hn, hp, or_self, if_false, Lib.parseMag]
    rw [if_neg (by simp), hu]
    unfold fits8
    by_cases h1 : v < 18446744073709551616
    · rw [if_pos h1]
      by_cases h2 : v ≤ 9223372036854775807
      · have a1 : (decide (-9223372036854775808 ≤ v) && decide (v ≤ 9223372036854775807)) = true := by simp; omega
        rw [if_pos a1]
        have t : ((v.toNat : Nat) : Int) = v := by omega
        have t2 : ¬ (9223372036854775808 ≤ v.toNat) := by omega
        simp [t, t2]
      · have a1 : (decide (-9223372036854775808 ≤ v) && decide (v ≤ 9223372036854775807)) = false := by simp; omega
        rw [if_neg (by rw [a1]; decide)]
        simp
        omega
    · rw [if_neg h1]
      have a1 : (decide (-9223372036854775808 ≤ v) && decide (v ≤ 9223372036854775807)) = false := by simp; omega
      rw [if_neg (by rw [a1]; decide)]
theorem atoi_minus {ds : List UInt8} (hne : ds ≠ []) (hd : allD ds) : Lib.atoiAll (45 :: ds) = if fits8 (-decV 0 ds) then .ok (-decV 0 ds) else .range := by
  have h0 := decV_ge ds 0 hd (by decide)
  have hu := uint_dec ds 0 hd (by decide)
  have e0 : ((0 : Nat) : Int) = 0 := rfl
  rw [e0] at hu
  generalize decV 0 ds = v at *
  have hn : (45 : UInt8).toNat = 45 := rfl
  simp only [Lib.atoiAll, hn, or_true, if_true, Lib.parseMag]
  rw [if_neg hne, hu]
  unfold fits8
  by_cases h1 : v < 18446744073709551616
  · rw [if_pos h1]
    by_cases h2 : -9223372036854775808 ≤ -v
    · have a1 : (decide (-9223372036854775808 ≤ -v) && decide (-v ≤ 9223372036854775807)) = true := by simp; omega
      rw [if_pos a1]
      have t : ((v.toNat : Nat) : Int) = v := by omega
      have t2 : ¬ (9223372036854775808 < v.toNat) := by omega
      simp [t, t2]
    · have a1 : (decide (-9223372036854775808 ≤ -v) && decide (-v ≤ 9223372036854775807)) = false := by simp; omega
      rw [if_neg (by rw [a1]; decide)]
      simp
      omega
  · rw [if_neg h1]
    have a1 : (decide (-9223372036854775808 ≤ -v) && decide (-v ≤ 9223372036854775807)) = false := by simp; omega
    rw [if_neg (by rw [a1]; decide)]
/-- The sign's own bytes. -/
def sgn (neg : Bool) : List UInt8 := if neg then [45] else []
theorem atoi_signed (neg : Bool) {ds : List UInt8} (hne : ds ≠ []) (hd : allD ds) : Lib.atoiAll (sgn neg ++ ds) = if fits8 (signed neg (decV 0 ds)) then .ok (signed neg (decV 0 ds)) else .range := by
  cases neg
  · exact atoi_plain hne hd
  · exact atoi_minus hne hd
end Go.Proofs.YthgblljokonejaaGreatDoor
