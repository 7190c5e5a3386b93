/- Plain facts on greatest common divisors of rows of numbers. No program is named here. -/
import Derived.Test.YtpaemaenefjajabNum
namespace Go.Proofs.Ytpaemaenefjajab
open Go.RowKit

def someB : List Int → Bool
  | [] => false
  | x :: xs => (x != 0) || someB xs
def lowB : List Int → Bool
  | [] => true
  | x :: xs => (x == 0 || x == -9223372036854775808) && lowB xs
def allB (d : Int) : List Int → Bool
  | [] => true
  | x :: xs => ((d != 0) && (x.tmod d == 0)) && allB d xs

theorem nth_mem {zs : List Int} {k : Nat} (h : k < zs.length) : nth zs k ∈ zs := by
  rw [nth, List.getD_eq_getElem?_getD, List.getElem?_eq_getElem h]
  exact List.getElem_mem h
theorem inR_mem {zs : List Int} (h : InR zs) : ∀ x ∈ zs, -9223372036854775808 ≤ x ∧ x ≤ 9223372036854775807 := by
  intro x hx
  obtain ⟨k, hk, rfl⟩ := List.getElem_of_mem hx
  have := h k
  rwa [nth, List.getD_eq_getElem?_getD, List.getElem?_eq_getElem hk] at this

theorem gcdO_dvd (d : Nat) (zs : List Int) : gcdO d zs ∣ d ∧ ∀ x ∈ zs, gcdO d zs ∣ x.natAbs := by
  induction zs generalizing d with
  | nil => exact ⟨Nat.dvd_refl _, fun x hx => by cases hx⟩
  | cons y ys ih =>
    have h := ih (Nat.gcd d y.natAbs)
    refine ⟨Nat.dvd_trans h.1 (Nat.gcd_dvd_left _ _), fun x hx => ?_⟩
    rcases List.mem_cons.1 hx with rfl | hx
    · exact Nat.dvd_trans h.1 (Nat.gcd_dvd_right _ _)
    · exact h.2 x hx
theorem dvd_gcdO (m d : Nat) (zs : List Int) (hd : m ∣ d) (h : ∀ x ∈ zs, m ∣ x.natAbs) : m ∣ gcdO d zs := by
  induction zs generalizing d with
  | nil => exact hd
  | cons y ys ih => exact ih _ (Nat.dvd_gcd hd (h y (by simp))) (fun x hx => h x (by simp [hx]))

theorem tmod_zero {x g : Int} : x.tmod g = 0 ↔ g.natAbs ∣ x.natAbs := by
  have h : (x.tmod g).natAbs = x.natAbs % g.natAbs := Int.natAbs_tmod x g
  constructor
  · intro e
    rw [e] at h
    exact Nat.dvd_of_mod_eq_zero h.symm
  · intro e
    rw [Nat.mod_eq_zero_of_dvd e] at h
    omega

theorem someB_iff {zs : List Int} : someB zs = true ↔ ∃ x ∈ zs, x ≠ 0 := by
  induction zs with
  | nil => simp [someB]
  | cons y ys ih => simp [someB, ih]
theorem lowB_iff {zs : List Int} : lowB zs = true ↔ ∀ x ∈ zs, x = 0 ∨ x = -9223372036854775808 := by
  induction zs with
  | nil => simp [lowB]
  | cons y ys ih => simp [lowB, ih]
theorem allB_iff {d : Int} {zs : List Int} : allB d zs = true ↔ ∀ x ∈ zs, d ≠ 0 ∧ x.tmod d = 0 := by
  induction zs with
  | nil => simp [allB]
  | cons y ys ih => simp [allB, ih]

theorem gcd_zero {zs : List Int} : gcdO 0 zs = 0 ↔ someB zs = false := by
  rw [Bool.eq_false_iff, Ne, someB_iff]
  constructor
  · intro h ⟨x, hx, hx0⟩
    have := (gcdO_dvd 0 zs).2 x hx
    rw [h, Nat.zero_dvd] at this
    omega
  · intro h
    have : 0 ∣ gcdO 0 zs := dvd_gcdO 0 0 zs (Nat.dvd_refl _) (fun x hx => by
      have : x = 0 := Classical.byContradiction fun h0 => h ⟨x, hx, h0⟩
      subst this; exact Nat.dvd_refl _)
    exact Nat.zero_dvd.1 this
theorem gcd_le {zs : List Int} (hz : InR zs) : gcdO 0 zs ≤ 9223372036854775808 := by
  cases h : someB zs
  · rw [gcd_zero.2 h]; decide
  · obtain ⟨x, hx, hx0⟩ := someB_iff.1 h
    have h1 := (gcdO_dvd 0 zs).2 x hx
    have h2 := inR_mem hz x hx
    have h3 := Nat.le_of_dvd (by omega) h1
    omega

/-- It does not fit: all are 0 or the least number, and not all are 0. -/
theorem gcd_no {zs : List Int} (hz : InR zs) (h : gcdB zs = false) : gcdV zs = 0 ∧ lowB zs = true ∧ someB zs = true := by
  have h1 := fitB_false.1 h
  have h2 := gcd_le hz
  have h3 : gcdO 0 zs = 9223372036854775808 := by omega
  refine ⟨fitV_no h1, lowB_iff.2 fun x hx => ?_, ?_⟩
  · have k1 := (gcdO_dvd 0 zs).2 x hx
    rw [h3] at k1
    have k2 := inR_mem hz x hx
    by_cases hx0 : x = 0
    · exact .inl hx0
    · have := Nat.le_of_dvd (by omega) k1
      omega
  · cases hs : someB zs
    · have := gcd_zero.2 hs; omega
    · rfl
theorem gcd_yes {zs : List Int} (h : gcdB zs = true) : gcdV zs = (gcdO 0 zs : Nat) := fitV_yes (fitB_true.1 h)
theorem gcd_each {zs : List Int} (h : gcdB zs = true) {k : Nat} (hk : k < zs.length) : (gcdV zs = 0 → nth zs k = 0) ∧ (nth zs k).tmod (gcdV zs) = 0 := by
  rw [gcd_yes h]
  have h1 := (gcdO_dvd 0 zs).2 _ (nth_mem hk)
  constructor
  · intro e
    have e' : gcdO 0 zs = 0 := by omega
    rw [e', Nat.zero_dvd] at h1
    omega
  · exact tmod_zero.2 (by simpa using h1)
theorem gcd_signs {zs : List Int} (h : gcdB zs = true) : 0 ≤ gcdV zs ∧ gcdV zs ≤ 9223372036854775807 ∧ (someB zs = true ↔ 0 < gcdV zs) ∧ ¬ (lowB zs = true ∧ someB zs = true) := by
  have hb := fitB_true.1 h
  have hv := gcd_yes h
  have hz := gcd_zero (zs := zs)
  refine ⟨by omega, by omega, ?_, ?_⟩
  · cases hs : someB zs
    · have := hz.2 hs
      constructor
      · intro h; cases h
      · intro h; omega
    · have : gcdO 0 zs ≠ 0 := fun e => by rw [hz.1 e] at hs; cases hs
      constructor
      · intro _; omega
      · intro _; rfl
  · intro ⟨hl, hs⟩
    have hl' := lowB_iff.1 hl
    have h1 : 9223372036854775808 ∣ gcdO 0 zs := dvd_gcdO _ 0 zs (Nat.dvd_zero _) (fun x hx => by
      rcases hl' x hx with rfl | rfl
      · exact Nat.dvd_zero _
      · exact Nat.dvd_refl _)
    have h2 : gcdO 0 zs ≠ 0 := fun e => by rw [hz.1 e] at hs; cases hs
    have := Nat.le_of_dvd (by omega) h1
    omega
theorem gcd_divided {zs : List Int} (h : gcdB zs = true) {d : Int} (ha : allB d zs = true) : (gcdV zs).tmod d = 0 := by
  rw [gcd_yes h]
  refine tmod_zero.2 ?_
  have : d.natAbs ∣ gcdO 0 zs := dvd_gcdO _ 0 zs (Nat.dvd_zero _) (fun x hx => tmod_zero.1 (allB_iff.1 ha x hx).2)
  simpa using this
end Go.Proofs.Ytpaemaenefjajab
