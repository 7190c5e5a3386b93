/- The walk through the statement IntsProduct. -/
import Derived.Test.YtpaemaenefjajabBigTimesB
import Derived.Test.YtpaemaenefjajabBigOf
import Derived.Test.YtpaemaenefjajabLcm
namespace Go.Proofs.Ytpaemaenefjajab
open Go.ChangeShapes Go.WideShapes Go.ChangeAt Go.RowKit

/-- The greatest common divisor of two numbers times their least common multiple is their product without its sign. -/
theorem product_eq (a b : Int) (hg : gcdB [a, b] = true) (hl : lcmB [a, b] = true) : gcdV [a, b] * lcmV [a, b] = ((a * b).natAbs : Int) := by
  have e1 : gcdV [a, b] = (Nat.gcd a.natAbs b.natAbs : Nat) := by
    rw [gcd_yes hg]
    simp only [gcdO, Nat.gcd_zero_left]
  rw [e1]
  cases hz : zeroB [a, b]
  · have h0 : a ≠ 0 ∧ b ≠ 0 := by
      constructor
      · rintro rfl; simp [zeroB] at hz
      · rintro rfl; simp [zeroB] at hz
    have hv : lcmV [a, b] = ((lcmO 1 [a, b]).getD 0 : Nat) := by unfold lcmV; rw [hz]; rfl
    have hb : lcmB [a, b] = (lcmO 1 [a, b]).isSome := by unfold lcmB; rw [hz]; rfl
    rw [hl] at hb
    have e2 : lcmO 1 [a, b] = some (Nat.lcm a.natAbs b.natAbs) := by
      simp only [lcmO, Nat.lcm_one_left] at hb ⊢
      split at hb
      · rename_i h1
        rw [if_pos h1]
        split at hb
        · rename_i h2
          rw [if_pos h2]
        · cases hb
      · cases hb
    rw [hv, e2]
    show ((Nat.gcd a.natAbs b.natAbs : Nat) : Int) * ((Nat.lcm a.natAbs b.natAbs : Nat) : Int) = _
    rw [← Int.natCast_mul, Nat.gcd_mul_lcm, Int.natAbs_mul]
  · have hv : lcmV [a, b] = 0 := by unfold lcmV; rw [hz]; rfl
    rw [hv, Int.mul_zero]
    simp [zeroB] at hz
    rcases hz with rfl | rfl <;> simp

theorem Wh.sized {w : World} {neg : Bool} {a : Option Addr} {len cap : Nat} {ds : List Int} {n : Int} (h : Wh w neg a len cap ds n) : Wh w false a len cap ds (n.natAbs : Int) := by
  refine ⟨h.row, h.norm, ?_, fun h => by cases h⟩
  have := val_nonneg h.row.dig
  have := h.worth
  cases neg <;> simp at * <;> omega

/-- A boxed pair, behind calls that turned nothing old. -/
structure Pair (w : World) (b : Nat) (x y : Value) : Prop where
  c0 : w.cell? ⟨b, 0, none⟩ = some x
  c1 : w.cell? ⟨b, 1, none⟩ = some y
  lt : b < w.heap.size
theorem Pair.later {w w' : World} {b : Nat} {x y : Value} (h : Pair w b x y) (hb : Below w.heap.size w w') : Pair w' b x y :=
  ⟨(hb.cell (p := ⟨b, 0, none⟩) h.lt).trans h.c0, (hb.cell (p := ⟨b, 1, none⟩) h.lt).trans h.c1, Nat.lt_of_lt_of_le h.lt hb.size⟩
theorem pair_first (w : World) (x y : Value) (t : TypeId) : Pair (w.alloc (.cells #[x, y] t)) w.heap.size x y := by
  have p := pair_new (V := w) (x := x) (y := y) (t := t) rfl
  exact ⟨p.1, p.2.1, by simp⟩

set_option maxRecDepth 100000 in
set_option maxHeartbeats 1000000 in
theorem product_no (a b : Int) (w : World) (ha : -9223372036854775808 ≤ a ∧ a ≤ 9223372036854775807) (hb : -9223372036854775808 ≤ b ∧ b ≤ 9223372036854775807) (hn : gcdB [a, b] = false ∨ lcmB [a, b] = false) :
    Calls Try.prog 6 #[.int .i64 a, .int .i64 b] w fun e w' => e = .returned (.bool true) ∧ Below w.heap.size w w' := by
  have r2 : InR [a, b] := inR2 ha hb
  have hgcd := fun x w => gcd_any x [a, b] 2 2 w rfl (by decide) r2
  have hlcm := fun x w => lcm_any x [a, b] 2 2 w rfl (by decide) r2
  clear r2
  generalize gcdV [a, b] = gv at *
  generalize lcmV [a, b] = lv at *
  by_cases h1 : gcdB [a, b] = false
  · rw [h1] at hgcd
    clear hn h1
    generalize lcmB [a, b] = lf at *
    go_enter Try.func6, Try.ntmps6
    go_wp2_with (first
      | (go_at_call 8; refine (hgcd _ _ (at2n ?_)).mono ?_; (simp); rintro e w' ⟨n1, rfl, rfl⟩)
      | (go_at_call 11; refine (hlcm _ _ (at2n ?_)).mono ?_; (simp); rintro e w' ⟨n2, rfl, rfl⟩)
      | (go_at_call 10; refine (awake_any _).mono ?_; rintro e w1 ⟨rfl, hbel⟩))
    go_ret
    exact ⟨rfl, (bdrew ((bdrew ((Below.refl _ _).alloc (Nat.le_refl _) _) n1).alloc (by simp) _) n2).trans (hbel.mono (by simp <;> omega))⟩
  · have h1' : gcdB [a, b] = true := by simpa using h1
    have h2 : lcmB [a, b] = false := hn.resolve_left h1
    rw [h1'] at hgcd
    rw [h2] at hlcm
    clear hn h1 h1' h2
    go_enter Try.func6, Try.ntmps6
    go_wp2_with (first
      | (go_at_call 8; refine (hgcd _ _ (at2n ?_)).mono ?_; (simp); rintro e w' ⟨n1, rfl, rfl⟩)
      | (go_at_call 11; refine (hlcm _ _ (at2n ?_)).mono ?_; (simp); rintro e w' ⟨n2, rfl, rfl⟩)
      | (go_at_call 10; refine (awake_any _).mono ?_; rintro e w1 ⟨rfl, hbel⟩))
    go_ret
    exact ⟨rfl, (bdrew ((bdrew ((Below.refl _ _).alloc (Nat.le_refl _) _) n1).alloc (by simp) _) n2).trans (hbel.mono (by simp <;> omega))⟩

set_option maxRecDepth 100000 in
set_option maxHeartbeats 1000000 in
theorem product_yes (a b : Int) (w : World) (ha : -9223372036854775808 ≤ a ∧ a ≤ 9223372036854775807) (hb : -9223372036854775808 ≤ b ∧ b ≤ 9223372036854775807) (h1 : gcdB [a, b] = true) (h2 : lcmB [a, b] = true) :
    Calls Try.prog 6 #[.int .i64 a, .int .i64 b] w fun e w' => e = .returned (.bool true) ∧ Below w.heap.size w w' := by
  have r2 : InR [a, b] := inR2 ha hb
  have hgcd := fun x w => gcd_any x [a, b] 2 2 w rfl (by decide) r2
  have hlcm := fun x w => lcm_any x [a, b] 2 2 w rfl (by decide) r2
  have HP : Hid (gcdV [a, b] * lcmV [a, b] = ((a * b).natAbs : Int)) := product_eq a b h1 h2
  have HG : Hid (0 ≤ gcdV [a, b] ∧ gcdV [a, b] ≤ 9223372036854775807) := ⟨(gcd_signs h1).1, (gcd_signs h1).2.1⟩
  have HL : Hid (0 ≤ lcmV [a, b] ∧ lcmV [a, b] ≤ 9223372036854775807) := (lcm_all [a, b] 0 (by decide)).1
  rw [h1] at hgcd
  rw [h2] at hlcm
  clear r2 h1 h2
  generalize gcdV [a, b] = gv at *
  generalize lcmV [a, b] = lv at *
  have Og : Hid (∀ W, Calls Try.prog 14 #[.int .i64 gv] W (MadeWh W gv 3)) := fun W => of_any gv W (by have := HG.out; omega)
  have Ol : Hid (∀ W, Calls Try.prog 14 #[.int .i64 lv] W (MadeWh W lv 3)) := fun W => of_any lv W (by have := HL.out; omega)
  have Oa : Hid (∀ W, Calls Try.prog 14 #[.int .i64 a] W (MadeWh W a 3)) := fun W => of_any a W ha
  have Ob : Hid (∀ W, Calls Try.prog 14 #[.int .i64 b] W (MadeWh W b 3)) := fun W => of_any b W hb
  go_enter Try.func6, Try.ntmps6
  go_wp2_with (first
    | (go_at_call 8; refine (hgcd _ _ (at2n ?_)).mono ?_; (simp); rintro e w' ⟨n1, rfl, rfl⟩)
    | (go_at_call 11; refine (hlcm _ _ (at2n ?_)).mono ?_; (simp); rintro e w' ⟨n2, rfl, rfl⟩)
    | (go_at_call 14; (with_reducible refine (Og.out _).mono ?_); rintro e w1 ⟨m1, a1, l1, p1, d1, rfl, hw1, hb1, hl1⟩)
    | (go_at_call 14; (with_reducible refine (Ol.out _).mono ?_); rintro e w2 ⟨m2, a2, l2, p2, d2, rfl, hw2, hb2, hl2⟩)
    | (go_at_call 13; (with_reducible refine (times_any _ _ _ _ _ _ _ _ _ _ _ _ _ (hw1.below hb2) hw2 (by omega)).mono ?_); rintro e w3 ⟨m3, a3, l3, p3, d3, rfl, hw3, hb3, hl3⟩; have HP3 := pair_first w3 (.bool m3) (.slice a3 l3 p3) 30))
  have HC : Hid (∀ W b6 b7 b8 d, Wh W m3 a3 l3 p3 d3 (gv * lv) → Wh W false b6 b7 b8 d ((a * b).natAbs : Int) → Calls Try.prog 15 #[.agg #[.bool m3, .slice a3 l3 p3], .agg #[.bool false, .slice b6 b7 b8]] W (fun e w' => e = .returned (.int .i64 0) ∧ Below W.heap.size W w')) :=
    fun W b6 b7 b8 d k1 k2 => (cmp_any m3 false a3 b6 l3 b7 p3 b8 d3 d _ _ W k1 k2).mono (fun e w' ⟨q1, q2⟩ => ⟨by rw [q1, cmpI_eq HP.out], q2⟩)
  have HB3 : Hid (Below w.heap.size w w3) := by
    have k1 : Below w.heap.size w w1 := (bdrew ((bdrew ((Below.refl _ _).alloc (Nat.le_refl _) _) n1).alloc (by simp) _) n2).trans (hb1.mono (by simp <;> omega))
    have k2 := k1.trans (hb2.mono k1.size)
    exact k2.trans (hb3.mono k2.size)
  have HW3 : Hid (Wh w3 m3 a3 l3 p3 d3 (gv * lv)) := hw3
  clear hw1 hw2 hw3 hb1 hb2 hb3
  go_wp2_with (first
    | (go_at_call 14; (with_reducible refine (Oa.out _).mono ?_); rintro e w4 ⟨m4, a4, l4, p4, d4, rfl, hw4, hb4, hl4⟩)
    | (go_at_call 14; (with_reducible refine (Ob.out _).mono ?_); rintro e w5 ⟨m5, a5, l5, p5, d5, rfl, hw5, hb5, hl5⟩)
    | (go_at_call 13; (with_reducible refine (times_any _ _ _ _ _ _ _ _ _ _ _ _ _ (hw4.below hb5) hw5 (by omega)).mono ?_); rintro e w6 ⟨m6, a6, l6, p6, d6, rfl, hw6, hb6, hl6⟩; have P6 := ((HP3.later hb4).later hb5).later hb6; have Y6 := pair_first w6 (.bool false) (.slice a6 l6 p6) 30)
    | (go_at_call 10; refine (awake_any _).mono ?_; rintro e w7 ⟨rfl, hb7⟩; have X7 := (P6.later ((Below.refl _ _).alloc (Nat.le_refl _) _)).later hb7; have Y7 := Y6.later hb7; have x0 := X7.c0; have x1 := X7.c1; have y0 := Y7.c0; have y1 := Y7.c1; have K6 : Below w6.heap.size w6 w7 := ((Below.refl _ _).alloc (Nat.le_refl _) _).trans (hb7.mono (by simp)); have k34 : Below w3.heap.size w3 w4 := ((Below.refl _ _).alloc (Nat.le_refl _) _).trans (hb4.mono (by simp)); have k35 := k34.trans (hb5.mono k34.size); have k36 := k35.trans (hb6.mono k35.size); have K3 := k36.trans (K6.mono k36.size))
    | (go_at_call 15; refine (HC.out _ _ _ _ _ (HW3.out.below K3) (hw6.sized.below K6)).mono ?_; rintro e w8 ⟨rfl, hb8⟩))
  go_ret
  have c7 := HB3.out.trans (K3.mono HB3.out.size)
  exact ⟨rfl, c7.trans (hb8.mono c7.size)⟩

theorem product_any (a b : Int) (w : World) (ha : -9223372036854775808 ≤ a ∧ a ≤ 9223372036854775807) (hb : -9223372036854775808 ≤ b ∧ b ≤ 9223372036854775807) :
    Calls Try.prog 6 #[.int .i64 a, .int .i64 b] w fun e w' => e = .returned (.bool true) ∧ Below w.heap.size w w' := by
  cases h1 : gcdB [a, b]
  · exact product_no a b w ha hb (.inl h1)
  · cases h2 : lcmB [a, b]
    · exact product_no a b w ha hb (.inr h2)
    · exact product_yes a b w ha hb h1 h2
end Go.Proofs.Ytpaemaenefjajab
