/- Actors, plain: what a firing gives is small. -/
import Derived.Test.YthgblljokonejaaActN
namespace Go.Proofs.Ythgblljokonejaa
open Go.ChangeShapes Go.WideShapes Go.ChangeAt Go.RowKit

theorem okq_one {t : Nat} {zs : List Int} {m : Int} (hk : okS t zs = (decide (zs.length = 1) && wB (nth zs 0) m)) (ok : okS t zs = true) : zs.length = 1 ∧ 1 ≤ nth zs 0 ∧ nth zs 0 ≤ m := by
  rw [hk, Bool.and_eq_true] at ok
  exact ⟨of_decide_eq_true ok.1, wB_bound ok.2⟩
theorem okq_woven {t : Nat} {zs : List Int} (hk : okS t zs = (decide (zs.length = 2) && wovenB (nth zs 0) (nth zs 1))) (ok : okS t zs = true) : zs.length = 2 ∧ (1 ≤ nth zs 0 ∧ nth zs 0 ≤ 16) ∧ (1 ≤ nth zs 1 ∧ nth zs 1 ≤ 64) ∧ nth zs 0 * nth zs 1 ≤ 64 := by
  rw [hk, Bool.and_eq_true] at ok
  have h2 := ok.2
  unfold wovenB at h2
  rw [Bool.and_eq_true, Bool.and_eq_true] at h2
  exact ⟨of_decide_eq_true ok.1, wB_bound h2.1, wB_bound h2.2.1, of_decide_eq_true h2.2.2⟩
theorem woven_nat {n m : Int} (h : n * m ≤ 64) (hn : 1 ≤ n) (hm : 1 ≤ m) : n.toNat * m.toNat ≤ 64 := by
  obtain ⟨N, rfl⟩ := Int.eq_ofNat_of_zero_le (show 0 ≤ n by omega)
  obtain ⟨M, rfl⟩ := Int.eq_ofNat_of_zero_le (show 0 ≤ m by omega)
  simp only [Int.toNat_natCast]
  exact_mod_cast h
theorem one_small {x : Int} {l : List Int} (h : l ∈ [[x]]) : l.length ≤ 64 := by
  rw [List.mem_singleton] at h; subst h; simp
theorem give_small : ∀ t, 1 ≤ t ∧ t ≤ 11 → ∀ (zs ks : List Int) (I : List (List Int)) (p : List (List Int) × List Int), okS t zs = true → giveS t zs ks I = some p → ∀ l ∈ p.1, l.length ≤ 64 := by
  refine eleven ?_ ?_ ?_ ?_ ?_ ?_ ?_ ?_ ?_ ?_ ?_
  · intro zs ks I p ok h l hl
    obtain ⟨y, -, rfl⟩ := Option.map_eq_some_iff.1 (show (dotO 0 zs (nth (nthL I 0) 0 :: ks)).map _ = some p from h)
    exact one_small hl
  · intro zs ks I p ok h l hl
    obtain rfl := Option.some.inj h
    have := okq_one (m := 64) rfl ok
    rw [List.mem_singleton] at hl; subst hl; rw [up_len]; omega
  · intro zs ks I p ok h l hl
    obtain rfl := Option.some.inj h
    exact one_small hl
  · intro zs ks I p ok h l hl
    obtain rfl := Option.some.inj h
    have h2 := okq_woven rfl ok
    rw [List.mem_singleton] at hl; subst hl; rw [weave_len]
    exact woven_nat h2.2.2.2 h2.2.1.1 h2.2.2.1.1
  · intro zs ks I p ok h l hl
    obtain rfl := Option.some.inj h
    have h2 := okq_woven rfl ok
    obtain ⟨i, -, rfl⟩ := List.mem_map.1 (show l ∈ (List.range _).map _ from hl)
    simp only [List.length_map, List.length_range]
    omega
  · intro zs ks I p ok h l hl
    obtain ⟨y, -, rfl⟩ := Option.map_eq_some_iff.1 (show (sumO 0 (I.map (nth · 0))).map _ = some p from h)
    exact one_small hl
  · intro zs ks I p ok h l hl
    replace h : (if nth (nthL I 1) 0 = 0 ∨ (nth (nthL I 0) 0 = -9223372036854775808 ∧ nth (nthL I 1) 0 = -1) then none else some ([[(nth (nthL I 0) 0).tdiv (nth (nthL I 1) 0)]], ks)) = some p := h
    split at h
    · cases h
    · obtain rfl := Option.some.inj h; exact one_small hl
  · intro zs ks I p ok h l hl
    replace h : (if fitB (nth ks 0 + nth (nthL I 0) 0) = true then some ([[nth ks 0 + nth (nthL I 0) 0]], [nth ks 0 + nth (nthL I 0) 0]) else none) = some p := h
    split at h
    · obtain rfl := Option.some.inj h; exact one_small hl
    · cases h
  · intro zs ks I p ok h l hl
    obtain rfl := Option.some.inj h
    obtain ⟨-, rfl⟩ := List.mem_replicate.1 hl
    exact one_small (x := nth (nthL I 0) 0) (List.mem_singleton.2 rfl)
  · intro zs ks I p ok h l hl
    replace h : (if fitB (nth ks 0 + nth zs 1) = true then some ([[nth ks 0]], [nth ks 0 + nth zs 1]) else none) = some p := h
    split at h
    · obtain rfl := Option.some.inj h; exact one_small hl
    · cases h
  · intro zs ks I p ok h l hl
    obtain rfl := Option.some.inj h
    cases hl
theorem fire_small {t : Nat} (ht : 1 ≤ t ∧ t ≤ 11) {zs ks ks' : List Int} {I O : List (List Int)} (ok : okS t zs = true) (h : fireS t zs ks I = (0, O, ks')) {j : Nat} (hj : j < O.length) : (nthL O j).length ≤ 64 := by
  unfold fireS at h
  split at h
  · cases hg : giveS t zs ks I with
    | none => rw [hg] at h; exact absurd (congrArg Prod.fst h) (show ¬ (70 : Int) = 0 by decide)
    | some p =>
      rw [hg] at h
      obtain rfl : p.1 = O := congrArg (fun q => q.2.1) h
      exact give_small t ht zs ks I p ok hg _ (nthL_mem hj)
  · exact absurd (congrArg Prod.fst h) (show ¬ (1 : Int) = 0 by decide)
theorem give_count : ∀ t, 1 ≤ t ∧ t ≤ 11 → ∀ (zs ks : List Int) (I : List (List Int)) (p : List (List Int) × List Int), okS t zs = true → giveS t zs ks I = some p → p.1.length ≤ 16 := by
  refine eleven ?_ ?_ ?_ ?_ ?_ ?_ ?_ ?_ ?_ ?_ ?_
  · intro zs ks I p ok h
    obtain ⟨y, -, rfl⟩ := Option.map_eq_some_iff.1 (show (dotO 0 zs (nth (nthL I 0) 0 :: ks)).map _ = some p from h)
    exact (show 1 ≤ 16 by decide)
  · intro zs ks I p ok h
    obtain rfl := Option.some.inj h
    exact (show 1 ≤ 16 by decide)
  · intro zs ks I p ok h
    obtain rfl := Option.some.inj h
    exact (show 1 ≤ 16 by decide)
  · intro zs ks I p ok h
    obtain rfl := Option.some.inj h
    exact (show 1 ≤ 16 by decide)
  · intro zs ks I p ok h
    obtain rfl := Option.some.inj h
    have h2 := okq_woven rfl ok
    show (partS _ _ _).length ≤ 16
    rw [part_len]; omega
  · intro zs ks I p ok h
    obtain ⟨y, -, rfl⟩ := Option.map_eq_some_iff.1 (show (sumO 0 (I.map (nth · 0))).map _ = some p from h)
    exact (show 1 ≤ 16 by decide)
  · intro zs ks I p ok h
    replace h : (if nth (nthL I 1) 0 = 0 ∨ (nth (nthL I 0) 0 = -9223372036854775808 ∧ nth (nthL I 1) 0 = -1) then none else some ([[(nth (nthL I 0) 0).tdiv (nth (nthL I 1) 0)]], ks)) = some p := h
    split at h
    · cases h
    · obtain rfl := Option.some.inj h; exact (show 1 ≤ 16 by decide)
  · intro zs ks I p ok h
    replace h : (if fitB (nth ks 0 + nth (nthL I 0) 0) = true then some ([[nth ks 0 + nth (nthL I 0) 0]], [nth ks 0 + nth (nthL I 0) 0]) else none) = some p := h
    split at h
    · obtain rfl := Option.some.inj h; exact (show 1 ≤ 16 by decide)
    · cases h
  · intro zs ks I p ok h
    obtain rfl := Option.some.inj h
    have := okq_one (m := 16) rfl ok
    show (List.replicate _ _).length ≤ 16
    rw [List.length_replicate]; omega
  · intro zs ks I p ok h
    replace h : (if fitB (nth ks 0 + nth zs 1) = true then some ([[nth ks 0]], [nth ks 0 + nth zs 1]) else none) = some p := h
    split at h
    · obtain rfl := Option.some.inj h; exact (show 1 ≤ 16 by decide)
    · cases h
  · intro zs ks I p ok h
    obtain rfl := Option.some.inj h
    exact (show 0 ≤ 16 by decide)
theorem fire_count {t : Nat} (ht : 1 ≤ t ∧ t ≤ 11) {zs ks ks' : List Int} {I O : List (List Int)} (ok : okS t zs = true) (h : fireS t zs ks I = (0, O, ks')) : O.length ≤ 16 := by
  unfold fireS at h
  split at h
  · cases hg : giveS t zs ks I with
    | none => rw [hg] at h; exact absurd (congrArg Prod.fst h) (show ¬ (70 : Int) = 0 by decide)
    | some p =>
      rw [hg] at h
      obtain rfl : p.1 = O := congrArg (fun q => q.2.1) h
      exact give_count t ht zs ks I p ok hg
  · exact absurd (congrArg Prod.fst h) (show ¬ (1 : Int) = 0 by decide)
theorem keep_small {t : Nat} (ht : 1 ≤ t ∧ t ≤ 11) {zs ks : List Int} (ok : okS t zs = true) (h : KeepOk t zs ks) : ks.length ≤ 16 := by
  by_cases h1 : t = 1
  · subst h1
    have := wB_bound (show wB (zs.length : Int) 16 = true from ok)
    have := h.2.1 rfl
    omega
  · by_cases h8 : t = 8 ∨ t = 10
    · have := h.2.2.1 h8; omega
    · rw [h.2.2.2 h1 (fun e => h8 (.inl e)) (fun e => h8 (.inr e))]; exact Nat.zero_le _
end Go.Proofs.Ythgblljokonejaa
