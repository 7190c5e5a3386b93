/- The statement FracOrders: an order of all fractions. -/
import Derived.Test.YtcklodmhlhjipabFOrdersA
import Derived.Test.YtcklodmhlhjipabFOrdersB
import Derived.Test.YtcklodmhlhjipabFOrdersC
import Derived.Test.YtcklodmhlhjipabFOrdersD
namespace Go.Proofs.Ytcklodmhlhjipab
open Go.ChangeShapes Go.WideShapes Go.ChangeAt Go.RowKit

theorem cmpI_neg (x y : Int) : cmpI y x = -cmpI x y := by
  rcases Int.lt_trichotomy x y with k | k | k
  · rw [cmpI_lt k, cmpI_gt k]; rfl
  · rw [cmpI_eq k, cmpI_eq k.symm]; rfl
  · rw [cmpI_gt k, cmpI_lt k]
theorem cmpI_le {x y : Int} (h : cmpI x y ≤ 0) : x ≤ y := by
  rcases Int.lt_trichotomy x y with k | k | k
  · omega
  · omega
  · rw [cmpI_gt k] at h; omega
theorem cmpI_ge {x y : Int} (h : 0 ≤ cmpI x y) : y ≤ x := by
  rcases Int.lt_trichotomy x y with k | k | k
  · rw [cmpI_lt k] at h; omega
  · omega
  · omega
theorem cmpI_zero {x y : Int} (h : cmpI x y = 0) : x = y := by
  have h1 := cmpI_le (x := x) (y := y) (by omega)
  have h2 := cmpI_ge (x := x) (y := y) (by omega)
  omega
theorem cmpI_of_le {x y : Int} (h : x ≤ y) : cmpI x y ≤ 0 := by
  rcases Int.lt_trichotomy x y with k | k | k
  · rw [cmpI_lt k]; decide
  · rw [cmpI_eq k]; decide
  · omega
theorem cmpI_of_ge {x y : Int} (h : y ≤ x) : 0 ≤ cmpI x y := by
  rcases Int.lt_trichotomy x y with k | k | k
  · omega
  · rw [cmpI_eq k]; decide
  · rw [cmpI_gt k]; decide

/-- a ≤ b and b ≤ c, of fractions with numbers above 0 below. -/
theorem frac_trans {a1 a2 b1 b2 c1 c2 : Int} (ha : 0 < a2) (hb : 0 < b2) (hc : 0 < c2) (h1 : a1 * b2 ≤ b1 * a2) (h2 : b1 * c2 ≤ c1 * b2) : a1 * c2 ≤ c1 * a2 := by
  have e1 : a1 * b2 * c2 ≤ b1 * a2 * c2 := Int.mul_le_mul_of_nonneg_right h1 (by omega)
  have e2 : b1 * c2 * a2 ≤ c1 * b2 * a2 := Int.mul_le_mul_of_nonneg_right h2 (by omega)
  have e3 : a1 * c2 * b2 ≤ c1 * a2 * b2 := by
    have f1 : a1 * b2 * c2 = a1 * c2 * b2 := Int.mul_right_comm _ _ _
    have f2 : b1 * a2 * c2 = b1 * c2 * a2 := Int.mul_right_comm _ _ _
    have f3 : c1 * b2 * a2 = c1 * a2 * b2 := Int.mul_right_comm _ _ _
    omega
  exact Int.le_of_mul_le_mul_right e3 hb

theorem cmpVE_yes {a b c d : Int} (h1 : validB a b = true) (h2 : validB c d = true) : cmpV a b c d = cmpI (a * d) (c * b) ∧ cmpE a b c d = 0 := ⟨by unfold cmpV; rw [h1, h2]; rfl, by unfold cmpE; rw [h1, h2]; rfl⟩
theorem cmpVE_no {a b c d : Int} (h : (validB a b && validB c d) = false) : cmpV a b c d = 0 ∧ cmpE a b c d = 1 := ⟨by unfold cmpV; rw [h]; rfl, by unfold cmpE; rw [h]; rfl⟩

theorem orders_any (a1 a2 b1 b2 c1 c2 : Int) (w : World) (ha1 : -9223372036854775808 ≤ a1 ∧ a1 ≤ 9223372036854775807) (ha2 : -9223372036854775808 ≤ a2 ∧ a2 ≤ 9223372036854775807) (hb1 : -9223372036854775808 ≤ b1 ∧ b1 ≤ 9223372036854775807) (hb2 : -9223372036854775808 ≤ b2 ∧ b2 ≤ 9223372036854775807) (hc1 : -9223372036854775808 ≤ c1 ∧ c1 ≤ 9223372036854775807) (hc2 : -9223372036854775808 ≤ c2 ∧ c2 ≤ 9223372036854775807) :
    Calls Try.prog 6 #[.agg #[.int .i64 a1, .int .i64 a2], .agg #[.int .i64 b1, .int .i64 b2], .agg #[.int .i64 c1, .int .i64 c2]] w fun e w' => e = .returned (.bool true) ∧ Below w.heap.size w w' := by
  have k1 := fun W => cmp_frac a1 a2 b1 b2 W ha1 ha2 hb1 hb2
  have k2 := fun W => cmp_frac b1 b2 a1 a2 W hb1 hb2 ha1 ha2
  have k3 := fun W => cmp_frac b1 b2 c1 c2 W hb1 hb2 hc1 hc2
  have k4 := fun W => cmp_frac a1 a2 c1 c2 W ha1 ha2 hc1 hc2
  have v1 := fun W => valid_any a1 a2 W ha1 ha2
  have v2 := fun W => valid_any b1 b2 W hb1 hb2
  cases hA : validB a1 a2
  · rw [(cmpVE_no (by rw [hA]; rfl)).1, (cmpVE_no (by rw [hA]; rfl)).2] at k1
    rw [(cmpVE_no (by rw [hA, Bool.and_false])).1, (cmpVE_no (by rw [hA, Bool.and_false])).2] at k2
    rw [hA] at v1
    exact orders_bad1 a1 a2 b1 b2 c1 c2 _ _ _ _ w k1 k2 k3 k4 v1
  · cases hB : validB b1 b2
    · rw [(cmpVE_no (by rw [hB, Bool.and_false])).1, (cmpVE_no (by rw [hB, Bool.and_false])).2] at k1
      rw [(cmpVE_no (by rw [hB]; rfl)).1, (cmpVE_no (by rw [hB]; rfl)).2] at k2
      rw [hA] at v1
      rw [hB] at v2
      exact orders_bad2 a1 a2 b1 b2 c1 c2 _ _ _ _ w k1 k2 k3 k4 v1 v2
    · rw [(cmpVE_yes hA hB).1, (cmpVE_yes hA hB).2] at k1
      rw [(cmpVE_yes hB hA).1, (cmpVE_yes hB hA).2, cmpI_neg] at k2
      rw [hA] at v1
      rw [hB] at v2
      have pa := valid_pos' hA
      have pb := valid_pos' hB
      have hxe : cmpI (a1 * b2) (b1 * a2) = 0 → (a1 == b1) = true ∧ (a2 == b2) = true := fun h => by
        have := valid_same hA hB (cmpI_zero h)
        rw [this.1, this.2]; simp
      have hxn : cmpI (a1 * b2) (b1 * a2) ≠ 0 → (a1 == b1) = false ∨ ((a1 == b1) = true ∧ (a2 == b2) = false) := fun h => by
        by_cases e1 : a1 = b1
        · by_cases e2 : a2 = b2
          · subst e1; subst e2; exact absurd (cmpI_eq rfl) h
          · right; exact ⟨by simpa using e1, by simpa using e2⟩
        · left; simpa using e1
      have hx := cmpI_cases (a1 * b2) (b1 * a2)
      cases hC : validB c1 c2
      · rw [(cmpVE_no (by rw [hC, Bool.and_false])).2] at k3
        generalize cmpI (a1 * b2) (b1 * a2) = x at *
        rcases hx with rfl | rfl | rfl
        · rcases hxn (by decide) with h1 | ⟨h1, h2⟩
          · exact orders_ma0 a1 a2 b1 b2 c1 c2 _ _ _ w k1 k2 k3 k4 v1 v2 h1
          · exact orders_mb0 a1 a2 b1 b2 c1 c2 _ _ _ w k1 k2 k3 k4 v1 v2 h1 h2
        · obtain ⟨h1, h2⟩ := hxe rfl
          exact orders_z0 a1 a2 b1 b2 c1 c2 _ _ _ w k1 k2 k3 k4 v1 v2 h1 h2
        · rcases hxn (by decide) with h1 | ⟨h1, h2⟩
          · exact orders_pa0 a1 a2 b1 b2 c1 c2 _ _ _ w k1 k2 k3 k4 v1 v2 h1
          · exact orders_pb0 a1 a2 b1 b2 c1 c2 _ _ _ w k1 k2 k3 k4 v1 v2 h1 h2
      · rw [(cmpVE_yes hB hC).1, (cmpVE_yes hB hC).2] at k3
        rw [(cmpVE_yes hA hC).1, (cmpVE_yes hA hC).2] at k4
        have pc := valid_pos' hC
        have t1 : cmpI (a1 * b2) (b1 * a2) ≤ 0 → cmpI (b1 * c2) (c1 * b2) ≤ 0 → cmpI (a1 * c2) (c1 * a2) ≤ 0 := fun h1 h2 => cmpI_of_le (frac_trans pa pb pc (cmpI_le h1) (cmpI_le h2))
        have t2 : 0 ≤ cmpI (a1 * b2) (b1 * a2) → 0 ≤ cmpI (b1 * c2) (c1 * b2) → 0 ≤ cmpI (a1 * c2) (c1 * a2) := fun h1 h2 => cmpI_of_ge (frac_trans pc pb pa (cmpI_ge h2) (cmpI_ge h1))
        have t3 : cmpI (a1 * c2) (c1 * a2) = 0 → cmpI (b1 * c2) (c1 * b2) = -cmpI (a1 * b2) (b1 * a2) := fun h => by
          obtain ⟨rfl, rfl⟩ := valid_same hA hC (cmpI_zero h)
          exact cmpI_neg _ _
        have t4 : cmpI (a1 * b2) (b1 * a2) = 0 → cmpI (b1 * c2) (c1 * b2) = cmpI (a1 * c2) (c1 * a2) := fun h => by
          obtain ⟨rfl, rfl⟩ := valid_same hA hB (cmpI_zero h)
          rfl
        have hz := cmpI_cases (b1 * c2) (c1 * b2)
        have hv := cmpI_cases (a1 * c2) (c1 * a2)
        generalize cmpI (a1 * b2) (b1 * a2) = x at *
        generalize cmpI (b1 * c2) (c1 * b2) = z at *
        generalize cmpI (a1 * c2) (c1 * a2) = v at *
        rcases hx with rfl | rfl | rfl
        · rcases hz with rfl | rfl | rfl
          · rcases hv with rfl | rfl | rfl
            · rcases hxn (by decide) with h1 | ⟨h1, h2⟩
              · exact orders_ma_mm a1 a2 b1 b2 c1 c2 w k1 k2 k3 k4 v1 v2 h1
              · exact orders_mb_mm a1 a2 b1 b2 c1 c2 w k1 k2 k3 k4 v1 v2 h1 h2
            · exact absurd (t3 rfl) (by decide)
            · exact absurd (t1 (by decide) (by decide)) (by decide)
          · rcases hv with rfl | rfl | rfl
            · rcases hxn (by decide) with h1 | ⟨h1, h2⟩
              · exact orders_ma_zm a1 a2 b1 b2 c1 c2 w k1 k2 k3 k4 v1 v2 h1
              · exact orders_mb_zm a1 a2 b1 b2 c1 c2 w k1 k2 k3 k4 v1 v2 h1 h2
            · exact absurd (t3 rfl) (by decide)
            · exact absurd (t1 (by decide) (by decide)) (by decide)
          · rcases hv with rfl | rfl | rfl
            · rcases hxn (by decide) with h1 | ⟨h1, h2⟩
              · exact orders_ma_pm a1 a2 b1 b2 c1 c2 w k1 k2 k3 k4 v1 v2 h1
              · exact orders_mb_pm a1 a2 b1 b2 c1 c2 w k1 k2 k3 k4 v1 v2 h1 h2
            · rcases hxn (by decide) with h1 | ⟨h1, h2⟩
              · exact orders_ma_pz a1 a2 b1 b2 c1 c2 w k1 k2 k3 k4 v1 v2 h1
              · exact orders_mb_pz a1 a2 b1 b2 c1 c2 w k1 k2 k3 k4 v1 v2 h1 h2
            · rcases hxn (by decide) with h1 | ⟨h1, h2⟩
              · exact orders_ma_pp a1 a2 b1 b2 c1 c2 w k1 k2 k3 k4 v1 v2 h1
              · exact orders_mb_pp a1 a2 b1 b2 c1 c2 w k1 k2 k3 k4 v1 v2 h1 h2
        · rcases hz with rfl | rfl | rfl
          · rcases hv with rfl | rfl | rfl
            · obtain ⟨h1, h2⟩ := hxe rfl
              exact orders_z_mm a1 a2 b1 b2 c1 c2 w k1 k2 k3 k4 v1 v2 h1 h2
            · exact absurd (t4 rfl) (by decide)
            · exact absurd (t4 rfl) (by decide)
          · rcases hv with rfl | rfl | rfl
            · exact absurd (t4 rfl) (by decide)
            · obtain ⟨h1, h2⟩ := hxe rfl
              exact orders_z_zz a1 a2 b1 b2 c1 c2 w k1 k2 k3 k4 v1 v2 h1 h2
            · exact absurd (t4 rfl) (by decide)
          · rcases hv with rfl | rfl | rfl
            · exact absurd (t4 rfl) (by decide)
            · exact absurd (t4 rfl) (by decide)
            · obtain ⟨h1, h2⟩ := hxe rfl
              exact orders_z_pp a1 a2 b1 b2 c1 c2 w k1 k2 k3 k4 v1 v2 h1 h2
        · rcases hz with rfl | rfl | rfl
          · rcases hv with rfl | rfl | rfl
            · rcases hxn (by decide) with h1 | ⟨h1, h2⟩
              · exact orders_pa_mm a1 a2 b1 b2 c1 c2 w k1 k2 k3 k4 v1 v2 h1
              · exact orders_pb_mm a1 a2 b1 b2 c1 c2 w k1 k2 k3 k4 v1 v2 h1 h2
            · rcases hxn (by decide) with h1 | ⟨h1, h2⟩
              · exact orders_pa_mz a1 a2 b1 b2 c1 c2 w k1 k2 k3 k4 v1 v2 h1
              · exact orders_pb_mz a1 a2 b1 b2 c1 c2 w k1 k2 k3 k4 v1 v2 h1 h2
            · rcases hxn (by decide) with h1 | ⟨h1, h2⟩
              · exact orders_pa_mp a1 a2 b1 b2 c1 c2 w k1 k2 k3 k4 v1 v2 h1
              · exact orders_pb_mp a1 a2 b1 b2 c1 c2 w k1 k2 k3 k4 v1 v2 h1 h2
          · rcases hv with rfl | rfl | rfl
            · exact absurd (t2 (by decide) (by decide)) (by decide)
            · rcases hxn (by decide) with h1 | ⟨h1, h2⟩
              · exact orders_pa_zz a1 a2 b1 b2 c1 c2 w k1 k2 k3 k4 v1 v2 h1
              · exact orders_pb_zz a1 a2 b1 b2 c1 c2 w k1 k2 k3 k4 v1 v2 h1 h2
            · rcases hxn (by decide) with h1 | ⟨h1, h2⟩
              · exact orders_pa_zp a1 a2 b1 b2 c1 c2 w k1 k2 k3 k4 v1 v2 h1
              · exact orders_pb_zp a1 a2 b1 b2 c1 c2 w k1 k2 k3 k4 v1 v2 h1 h2
          · rcases hv with rfl | rfl | rfl
            · exact absurd (t2 (by decide) (by decide)) (by decide)
            · rcases hxn (by decide) with h1 | ⟨h1, h2⟩
              · exact orders_pa_pz a1 a2 b1 b2 c1 c2 w k1 k2 k3 k4 v1 v2 h1
              · exact orders_pb_pz a1 a2 b1 b2 c1 c2 w k1 k2 k3 k4 v1 v2 h1 h2
            · rcases hxn (by decide) with h1 | ⟨h1, h2⟩
              · exact orders_pa_pp a1 a2 b1 b2 c1 c2 w k1 k2 k3 k4 v1 v2 h1
              · exact orders_pb_pp a1 a2 b1 b2 c1 c2 w k1 k2 k3 k4 v1 v2 h1 h2
end Go.Proofs.Ytcklodmhlhjipab
