/- Texts of one chain, laid one behind the other. -/
import Derived.Test.YthgblljokonejaaGreatDoorRows
import Derived.Test.YthgblljokonejaaGreatDoorChain2
import Derived.WalkKit
import Derived.ProofKit
import Derived.OpenShut
import Derived.BigQuiet
import Derived.Outline
/- What the program's own Add, Sub, Mul, absolute and common answer, each whatever it is handed. -/
namespace Go.Proofs.YthgblljokonejaaGreatDoor
open Go.ChangeShapes Go.WideShapes Go.ChangeAt Go.RowKit

theorem ret_two {a b : Int} {c d : Bool} (h : a = b) (k : c = d) : Ending.returned (.tuple #[.int .i64 a, .bool c]) = .returned (.tuple #[.int .i64 b, .bool d]) := by rw [h, k]
theorem ret_one {a b : Int} (h : a = b) : Ending.returned (.int .i64 a) = .returned (.int .i64 b) := by rw [h]

theorem rem_facts (x y : Int) (hy : y ≠ 0) (hx1 : -9223372036854775808 ≤ x) (hx2 : x ≤ 9223372036854775807) :
    wrap64 (x.tmod y) = x.tmod y ∧ (-9223372036854775808 ≤ x.tmod y ∧ x.tmod y ≤ 9223372036854775807) ∧ (x.tmod y).natAbs < y.natAbs ∧ Nat.gcd y.natAbs (x.tmod y).natAbs = Nat.gcd x.natAbs y.natAbs ∧ (0 ≤ x → 0 ≤ x.tmod y) := by
  have h1 : (x.tmod y).natAbs = x.natAbs % y.natAbs := Int.natAbs_tmod x y
  have h2 : x.natAbs % y.natAbs < y.natAbs := Nat.mod_lt _ (by omega)
  have h3 : x.natAbs % y.natAbs ≤ x.natAbs := Nat.mod_le _ _
  have h4 : 0 ≤ x → 0 ≤ x.tmod y := fun h => Int.tmod_nonneg y h
  have h5 : x < 0 → x.tmod y ≤ 0 := fun h => by
    have := Int.tmod_nonneg y (a := -x) (by omega)
    rw [Int.neg_tmod] at this
    omega
  refine ⟨?_, ?_, by omega, ?_, h4⟩
  · unfold wrap64; omega
  · omega
  · rw [h1, Nat.gcd_comm, ← Nat.gcd_rec, Nat.gcd_comm]

end Go.Proofs.YthgblljokonejaaGreatDoor

/- What the program's own Sum, Gcd, hasZero, Lcm and Dot answer over rows of numbers in memory. -/
namespace Go.Proofs.YthgblljokonejaaGreatDoor
open Go.ChangeShapes Go.WideShapes Go.ChangeAt Go.RowKit

/-- A row of numbers lies in memory where a slice says. -/
def At (w : World) (a : Option Addr) (zs : List Int) : Prop :=
  zs = [] ∨ ∃ b off, a = some ⟨b, off, none⟩ ∧ ∀ k, k < zs.length → w.cell? ⟨b, off + k, none⟩ = some (.int .i64 (nth zs k))

theorem lcm_facts {x s : Nat} (hx : 1 ≤ x) (hs : 1 ≤ s) (hx2 : x ≤ 9223372036854775807) :
    ∃ g q l : Nat, Hid (Nat.gcd s x = g) ∧ Hid (Nat.lcm x s = l) ∧ 1 ≤ g ∧ g ≤ 9223372036854775807 ∧ ((x : Int) / (g : Int) = (q : Int)) ∧ 1 ≤ q ∧ q ≤ 9223372036854775807 ∧ 1 ≤ l ∧ (q : Int) * (s : Int) = (l : Int) := by
  obtain ⟨h1, h2, h3, h4⟩ := lcm_by hx hs
  have h5 : Nat.gcd s x ≤ x := Nat.le_of_dvd (by omega) (Nat.gcd_dvd_right s x)
  have h6 : x / Nat.gcd s x ≤ x := Nat.div_le_self _ _
  exact ⟨_, x / Nat.gcd s x, _, rfl, rfl, h1, by omega, by omega, h3, by omega, h4, by rw [← h2]; simp⟩

theorem dotO_nil_left (s : Int) (ys : List Int) : dotO s [] ys = some s := by cases ys <;> rfl

end Go.Proofs.YthgblljokonejaaGreatDoor

/- The statements' own examples, which each of them asks besides: all come out as the document has them. -/
namespace Go.Proofs.YthgblljokonejaaGreatDoor
open Go.ChangeShapes Go.WideShapes Go.ChangeAt Go.RowKit

/-- Old cells and old marks read as before, where nothing below a bound has turned. -/
theorem bcell {n : Nat} {W w1 : World} (hb : Below n W w1) : (∀ b o, b < n → w1.cell? ⟨b, o, none⟩ = W.cell? ⟨b, o, none⟩) ∧ (∀ b o, b < n → w1.frozen? ⟨b, o, none⟩ = W.frozen? ⟨b, o, none⟩) :=
  ⟨fun b o h => hb.cell (p := ⟨b, o, none⟩) h, fun b o h => hb.frozen (p := ⟨b, o, none⟩) h⟩

theorem bdrew {B : Nat} {a w : World} (h : Below B a w) (n : Nat) : Below B a (w.drewN n) := h.trans ⟨rfl, rfl, rfl, Nat.le_refl _, fun _ _ => rfl⟩

theorem at2 {W : World} {b : Nat} {x y : Int} (h0 : W.cell? ⟨b, 0, none⟩ = some (.int .i64 x)) (h1 : W.cell? ⟨b, 1, none⟩ = some (.int .i64 y)) : At W (some ⟨b, 0, none⟩) [x, y] := by
  refine Or.inr ⟨_, _, rfl, fun k hk => ?_⟩
  match k, hk with
  | 0, _ => exact h0
  | 1, _ => exact h1
theorem at3 {W : World} {b : Nat} {x y z : Int} (h0 : W.cell? ⟨b, 0, none⟩ = some (.int .i64 x)) (h1 : W.cell? ⟨b, 1, none⟩ = some (.int .i64 y)) (h2 : W.cell? ⟨b, 2, none⟩ = some (.int .i64 z)) : At W (some ⟨b, 0, none⟩) [x, y, z] := by
  refine Or.inr ⟨_, _, rfl, fun k hk => ?_⟩
  match k, hk with
  | 0, _ => exact h0
  | 1, _ => exact h1
  | 2, _ => exact h2
theorem at2n {V : World} {b : Nat} {x y : Int} {t : TypeId} (hb : b = V.heap.size) : At (V.alloc (.cells #[.int .i64 x, .int .i64 y] t)) (some ⟨b, 0, none⟩) [x, y] := by
  subst hb
  exact at2 (by simp) (by simp)
theorem at2o {V : World} {b : Nat} {x y : Int} {t : TypeId} {O : Obj} (hb : b = V.heap.size) : At ((V.alloc (.cells #[.int .i64 x, .int .i64 y] t)).alloc O) (some ⟨b, 0, none⟩) [x, y] := by
  subst hb
  exact at2 (by simp) (by simp)
theorem inR2 {x y : Int} (hx : -9223372036854775808 ≤ x ∧ x ≤ 9223372036854775807) (hy : -9223372036854775808 ≤ y ∧ y ≤ 9223372036854775807) : InR [x, y] := by
  intro k
  match k with
  | 0 => exact hx
  | 1 => exact hy
  | k + 2 => exact (by decide : (-9223372036854775808 : Int) ≤ 0 ∧ (0 : Int) ≤ 9223372036854775807)
theorem inR3 {x y z : Int} (hx : -9223372036854775808 ≤ x ∧ x ≤ 9223372036854775807) (hy : -9223372036854775808 ≤ y ∧ y ≤ 9223372036854775807) (hz : -9223372036854775808 ≤ z ∧ z ≤ 9223372036854775807) : InR [x, y, z] := by
  intro k
  match k with
  | 0 => exact hx
  | 1 => exact hy
  | 2 => exact hz
  | k + 3 => exact (by decide : (-9223372036854775808 : Int) ≤ 0 ∧ (0 : Int) ≤ 9223372036854775807)

end Go.Proofs.YthgblljokonejaaGreatDoor
