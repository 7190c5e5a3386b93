/- What the program's own Sum, Gcd, hasZero, Lcm and Dot answer over rows of numbers in memory. -/
import Derived.Test.YtancphohpedigaaBase
namespace Go.Proofs.Ytancphohpedigaa
open Go.ChangeShapes Go.WideShapes Go.ChangeAt Go.RowKit

/-- A row of numbers lies in memory where a slice says. -/
def At (w : World) (a : Option Addr) (zs : List Int) : Prop :=
  zs = [] ∨ ∃ b off, a = some ⟨b, off, none⟩ ∧ ∀ k, k < zs.length → w.cell? ⟨b, off + k, none⟩ = some (.int .i64 (nth zs k))

theorem lcm_facts {x s : Nat} (hx : 1 ≤ x) (hs : 1 ≤ s) (hx2 : x ≤ 9223372036854775807) :
    ∃ g q l : Nat, Hid (Nat.gcd s x = g) ∧ Hid (Nat.lcm x s = l) ∧ 1 ≤ g ∧ g ≤ 9223372036854775807 ∧ ((x : Int) / (g : Int) = (q : Int)) ∧ 1 ≤ q ∧ q ≤ 9223372036854775807 ∧ 1 ≤ l ∧ (q : Int) * (s : Int) = (l : Int) := by
  obtain ⟨h1, h2, h3, h4⟩ := lcm_by hx hs
  have h5 : Nat.gcd s x ≤ x := Nat.le_of_dvd (by omega) (Nat.gcd_dvd_right s x)
  have h6 : x / Nat.gcd s x ≤ x := Nat.div_le_self _ _
  exact ⟨_, x / Nat.gcd s x, _, rfl, rfl, h1, by omega, by omega, h3, by omega, h4, by rw [← h2]; simp⟩

theorem dotO_nil_left (s : Int) (ys : List Int) : dotO s [] ys = some s := by cases ys <;> rfl

end Go.Proofs.Ytancphohpedigaa
