/- What frac's Cmp answers. -/
import Derived.Test.YtgjeihdibcjjcabFrCmp
namespace Go.Proofs.Ytgjeihdibcjjcab
open Go.ChangeShapes Go.WideShapes Go.ChangeAt Go.RowKit

theorem words_unlike {x y : Nat} (h : x / 18446744073709551616 ≠ y / 18446744073709551616) : cmpI ((x / 18446744073709551616 : Nat) : Int) ((y / 18446744073709551616 : Nat) : Int) = cmpI (x : Int) (y : Int) := by
  rcases Nat.lt_trichotomy x y with k | k | k
  · rw [cmpI_lt (by omega), cmpI_lt (by omega)]
  · exact absurd (by rw [k]) h
  · rw [cmpI_gt (by omega), cmpI_gt (by omega)]
theorem words_like {x y : Nat} (h : x / 18446744073709551616 = y / 18446744073709551616) : cmpI ((x % 18446744073709551616 : Nat) : Int) ((y % 18446744073709551616 : Nat) : Int) = cmpI (x : Int) (y : Int) := by
  rcases Nat.lt_trichotomy x y with k | k | k
  · rw [cmpI_lt (by omega), cmpI_lt (by omega)]
  · rw [cmpI_eq (by omega), cmpI_eq (by omega)]
  · rw [cmpI_gt (by omega), cmpI_gt (by omega)]

set_option maxRecDepth 100000 in
set_option maxHeartbeats 1000000 in
theorem sizes_any (a b c d : Int) (w : World) (ha : -9223372036854775808 ≤ a ∧ a ≤ 9223372036854775807) (hb : -9223372036854775808 ≤ b ∧ b ≤ 9223372036854775807) (hc : -9223372036854775808 ≤ c ∧ c ≤ 9223372036854775807) (hd : -9223372036854775808 ≤ d ∧ d ≤ 9223372036854775807) :
    Calls Try.prog 58 #[.agg #[.int .i64 a, .int .i64 b], .agg #[.int .i64 c, .int .i64 d]] w fun e w' => e = .returned (.int .i64 (cmpI ((a.natAbs * d.natAbs : Nat) : Int) ((c.natAbs * b.natAbs : Nat) : Int))) ∧ Below w.heap.size w w' := by
  have sa := fun w => fsize_any a w ha
  have sb := fun w => fsize_any b w hb
  have sc := fun w => fsize_any c w hc
  have sd := fun w => fsize_any d w hd
  have m1 := mul64_any a.natAbs d.natAbs (by omega) (by omega)
  have m2 := mul64_any c.natAbs b.natAbs (by omega) (by omega)
  generalize a.natAbs * d.natAbs = X at *
  generalize c.natAbs * b.natAbs = Y at *
  have HL : Hid (X / 18446744073709551616 = Y / 18446744073709551616 → cmpI ((X % 18446744073709551616 : Nat) : Int) ((Y % 18446744073709551616 : Nat) : Int) = cmpI (X : Int) (Y : Int)) := words_like
  have HU : Hid (X / 18446744073709551616 ≠ Y / 18446744073709551616 → cmpI ((X / 18446744073709551616 : Nat) : Int) ((Y / 18446744073709551616 : Nat) : Int) = cmpI (X : Int) (Y : Int)) := words_unlike
  obtain ⟨X1, e1⟩ : ∃ v, X / 18446744073709551616 = v := ⟨_, rfl⟩
  obtain ⟨Y1, e2⟩ : ∃ v, Y / 18446744073709551616 = v := ⟨_, rfl⟩
  obtain ⟨X0, e3⟩ : ∃ v, X % 18446744073709551616 = v := ⟨_, rfl⟩
  obtain ⟨Y0, e4⟩ : ∃ v, Y % 18446744073709551616 = v := ⟨_, rfl⟩
  rw [e1, e3] at m1
  rw [e2, e4] at m2
  rw [e1, e2, e3, e4] at HL
  rw [e1, e2] at HU
  clear e1 e2 e3 e4
  generalize a.natAbs = A at *
  generalize b.natAbs = B at *
  generalize c.natAbs = C at *
  generalize d.natAbs = D at *
  have HV : Hid (∃ W, W = (w.alloc (.cells #[.int .i64 a, .int .i64 b] 24)).alloc (.cells #[.int .i64 c, .int .i64 d] 24) ∧ Var2 W w.heap.size (.int .i64 a) (.int .i64 b) ∧ Var2 W (w.heap.size + 1) (.int .i64 c) (.int .i64 d) ∧ Below w.heap.size w W) := by
    refine ⟨_, rfl, ?_, ?_, ?_⟩
    · exact (var2_new w _ _ _).alloc _
    · exact var2_at _ _ _ _ (by simp)
    · exact ((Below.refl _ _).alloc (Nat.le_refl _) _).alloc (by simp) _
  go_enter Try.func58, Try.ntmps58
  go_wp2
  obtain ⟨W, eW, ka, kb, kw⟩ := HV.out
  clear HV
  rw [← eW]
  clear eW
  have a0 := ka.c0
  have a1 := ka.c1
  have b0 := kb.c0
  have b1 := kb.c1
  go_quiet (first
    | (go_at_call 66; (with_reducible refine (sa _).mono ?_); rintro e w' ⟨rfl, rfl⟩; exact ⟨rfl, _, rfl⟩)
    | (go_at_call 66; (with_reducible refine (sd _).mono ?_); rintro e w' ⟨rfl, rfl⟩; exact ⟨rfl, _, rfl⟩)
    | (go_at_call 65; (with_reducible refine (m1 _).mono ?_); rintro e w' ⟨rfl, rfl⟩; exact ⟨rfl, _, rfl⟩))
  go_wp2
  go_quiet (first
    | (go_at_call 66; (with_reducible refine (sc _).mono ?_); rintro e w' ⟨rfl, rfl⟩; exact ⟨rfl, _, rfl⟩)
    | (go_at_call 66; (with_reducible refine (sb _).mono ?_); rintro e w' ⟨rfl, rfl⟩; exact ⟨rfl, _, rfl⟩)
    | (go_at_call 65; (with_reducible refine (m2 _).mono ?_); rintro e w' ⟨rfl, rfl⟩; exact ⟨rfl, _, rfl⟩))
  by_cases h : X1 = Y1
  · have hn : ((X1 : Int) != (Y1 : Int)) = false := by rw [h]; simp
    have hc := compare_u64 X0 Y0
    rw [HL.out h] at hc
    clear h HL HU
    go_wp2_with (go_at_call 67; refine (hc _).mono ?_; rintro e w' ⟨rfl, rfl⟩)
    go_ret
    exact ⟨rfl, bdrew kw _⟩
  · have hn : ((X1 : Int) != (Y1 : Int)) = true := by simp; omega
    have hc := compare_u64 X1 Y1
    rw [HU.out h] at hc
    clear h HL HU
    go_wp2_with (go_at_call 67; refine (hc _).mono ?_; rintro e w' ⟨rfl, rfl⟩)
    go_ret
    exact ⟨rfl, bdrew kw _⟩

def cmpE (a b c d : Int) : Int := if validB a b && validB c d then 0 else 1
def cmpV (a b c d : Int) : Int := if validB a b && validB c d then cmpI (a * d) (c * b) else 0

/-- The order of two fractions, by their signs first. -/
theorem cmp_signs {a b c d : Int} (hb : 0 < b) (hd : 0 < d) (h : cmpI (cmpI a 0) (cmpI c 0) ≠ 0) : cmpI (cmpI a 0) (cmpI c 0) = cmpI (a * d) (c * b) := by
  have pos : ∀ x y : Int, 0 < x → 0 < y → 0 < x * y := fun x y hx hy => Int.mul_pos hx hy
  have neg : ∀ x y : Int, x < 0 → 0 < y → x * y < 0 := fun x y hx hy => Int.mul_neg_of_neg_of_pos hx hy
  rcases Int.lt_trichotomy a 0 with ka | ka | ka <;> rcases Int.lt_trichotomy c 0 with kc | kc | kc
  · rw [cmpI_lt ka, cmpI_lt kc] at h; exact absurd (cmpI_eq rfl) h
  · subst kc; rw [cmpI_lt ka, cmpI_eq rfl, cmpI_lt (by decide), Int.zero_mul, cmpI_lt (neg _ _ ka hd)]
  · rw [cmpI_lt ka, cmpI_gt kc, cmpI_lt (by decide), cmpI_lt (by have := neg _ _ ka hd; have := pos _ _ kc hb; omega)]
  · subst ka; rw [cmpI_lt kc, cmpI_eq rfl, cmpI_gt (by decide), Int.zero_mul, cmpI_gt (neg _ _ kc hb)]
  · subst ka; subst kc; exact absurd (cmpI_eq rfl) h
  · subst ka; rw [cmpI_gt kc, cmpI_eq rfl, cmpI_lt (by decide), Int.zero_mul, cmpI_lt (pos _ _ kc hb)]
  · rw [cmpI_gt ka, cmpI_lt kc, cmpI_gt (by decide), cmpI_gt (by have := pos _ _ ka hd; have := neg _ _ kc hb; omega)]
  · subst kc; rw [cmpI_gt ka, cmpI_eq rfl, cmpI_gt (by decide), Int.zero_mul, cmpI_gt (pos _ _ ka hd)]
  · rw [cmpI_gt ka, cmpI_gt kc] at h; exact absurd (cmpI_eq rfl) h
theorem cmp_sizes {a b c d : Int} (hb : 0 < b) (hd : 0 < d) (h : cmpI (cmpI a 0) (cmpI c 0) = 0) : cmpI a 0 * cmpI ((a.natAbs * d.natAbs : Nat) : Int) ((c.natAbs * b.natAbs : Nat) : Int) = cmpI (a * d) (c * b) := by
  have ed : ((d.natAbs : Nat) : Int) = d := by omega
  have eb : ((b.natAbs : Nat) : Int) = b := by omega
  rw [Int.natCast_mul, Int.natCast_mul, ed, eb]
  rcases Int.lt_trichotomy a 0 with ka | ka | ka <;> rcases Int.lt_trichotomy c 0 with kc | kc | kc
  · have ea : ((a.natAbs : Nat) : Int) = -a := by omega
    have ec : ((c.natAbs : Nat) : Int) = -c := by omega
    rw [ea, ec, Int.neg_mul, Int.neg_mul, cmpI_lt ka]
    rcases Int.lt_trichotomy (a * d) (c * b) with k | k | k
    · rw [cmpI_gt (by omega), cmpI_lt k]; rfl
    · rw [cmpI_eq (by omega), cmpI_eq k]; rfl
    · rw [cmpI_lt (by omega), cmpI_gt k]; rfl
  · rw [cmpI_lt ka, kc] at h; exact absurd h (by decide)
  · rw [cmpI_lt ka, cmpI_gt kc] at h; exact absurd h (by decide)
  · rw [ka, cmpI_lt kc] at h; exact absurd h (by decide)
  · subst ka; subst kc; rw [Int.zero_mul, Int.zero_mul, cmpI_eq rfl, Int.zero_mul]
  · rw [ka, cmpI_gt kc] at h; exact absurd h (by decide)
  · rw [cmpI_gt ka, cmpI_lt kc] at h; exact absurd h (by decide)
  · rw [cmpI_gt ka, kc] at h; exact absurd h (by decide)
  · have ea : ((a.natAbs : Nat) : Int) = a := by omega
    have ec : ((c.natAbs : Nat) : Int) = c := by omega
    rw [ea, ec, cmpI_gt ka, Int.one_mul]
theorem cmpI_cases (x y : Int) : cmpI x y = -1 ∨ cmpI x y = 0 ∨ cmpI x y = 1 := by
  rcases Int.lt_trichotomy x y with k | k | k
  · exact .inl (cmpI_lt k)
  · exact .inr (.inl (cmpI_eq k))
  · exact .inr (.inr (cmpI_gt k))

set_option maxRecDepth 100000 in
set_option maxHeartbeats 1000000 in
theorem cmp_frac (a b c d : Int) (w : World) (ha : -9223372036854775808 ≤ a ∧ a ≤ 9223372036854775807) (hb : -9223372036854775808 ≤ b ∧ b ≤ 9223372036854775807) (hc : -9223372036854775808 ≤ c ∧ c ≤ 9223372036854775807) (hd : -9223372036854775808 ≤ d ∧ d ≤ 9223372036854775807) :
    Calls Try.prog 42 #[.agg #[.int .i64 a, .int .i64 b], .agg #[.int .i64 c, .int .i64 d]] w fun e w' => e = .returned (.tuple #[.int .i64 (cmpV a b c d), .int .i64 (cmpE a b c d)]) ∧ Below w.heap.size w w' := by
  have v1 := fun w => valid_any a b w ha hb
  have v2 := fun w => valid_any c d w hc hd
  have HV : Hid (∃ W, W = (w.alloc (.cells #[.int .i64 a, .int .i64 b] 24)).alloc (.cells #[.int .i64 c, .int .i64 d] 24) ∧ Var2 W w.heap.size (.int .i64 a) (.int .i64 b) ∧ Var2 W (w.heap.size + 1) (.int .i64 c) (.int .i64 d) ∧ Below w.heap.size w W) := by
    refine ⟨_, rfl, ?_, ?_, ?_⟩
    · exact (var2_new w _ _ _).alloc _
    · exact var2_at _ _ _ _ (by simp)
    · exact ((Below.refl _ _).alloc (Nat.le_refl _) _).alloc (by simp) _
  obtain ⟨W, eW, ka, kb, kw⟩ := HV.out
  have EW : Hid (W = (w.alloc (.cells #[.int .i64 a, .int .i64 b] 24)).alloc (.cells #[.int .i64 c, .int .i64 d] 24)) := eW
  clear eW HV
  cases h1 : validB a b
  · have K : Hid (cmpV a b c d = 0 ∧ cmpE a b c d = 1) := ⟨by unfold cmpV; rw [h1]; rfl, by unfold cmpE; rw [h1]; rfl⟩
    rw [h1] at v1
    clear h1
    go_enter Try.func42, Try.ntmps42
    go_wp2_with (go_at_call 25; refine (v1 _).mono ?_; rintro e w1 ⟨rfl, hb1⟩; rw [← EW.out] at hb1)
    go_ret2
    exact ⟨by rw [K.out.1, K.out.2]; rfl, kw.trans (hb1.mono kw.size)⟩
  · cases h2 : validB c d
    · have K : Hid (cmpV a b c d = 0 ∧ cmpE a b c d = 1) := ⟨by unfold cmpV; rw [h1, h2]; rfl, by unfold cmpE; rw [h1, h2]; rfl⟩
      rw [h1] at v1
      rw [h2] at v2
      clear h1 h2
      go_enter Try.func42, Try.ntmps42
      go_wp2_with (first
        | (go_at_call 25; (with_reducible refine (v1 _).mono ?_); rintro e w1 ⟨rfl, hb1⟩; rw [← EW.out] at hb1; have kb1 := kb.later hb1 kb.lt; have e0 := kb1.c0; have e1 := kb1.c1)
        | (go_at_call 25; (with_reducible refine (v2 _).mono ?_); rintro e w2 ⟨rfl, hb2⟩))
      go_ret2
      exact ⟨by rw [K.out.1, K.out.2]; rfl, (kw.trans (hb1.mono kw.size)).trans (hb2.mono (kw.trans (hb1.mono kw.size)).size)⟩
    · have hb0 := valid_pos' h1
      have hd0 := valid_pos' h2
      have K : Hid (cmpV a b c d = cmpI (a * d) (c * b) ∧ cmpE a b c d = 0) := ⟨by unfold cmpV; rw [h1, h2]; rfl, by unfold cmpE; rw [h1, h2]; rfl⟩
      rw [h1] at v1
      rw [h2] at v2
      clear h1 h2
      have sa := sign_any a
      have sc := sign_any c
      have hcm := compare_int (cmpI a 0) (cmpI c 0)
      have hsz := fun w => sizes_any a b c d w ha hb hc hd
      by_cases hu : cmpI (cmpI a 0) (cmpI c 0) = 0
      · have HS : Hid (cmpI a 0 * cmpI ((a.natAbs * d.natAbs : Nat) : Int) ((c.natAbs * b.natAbs : Nat) : Int) = cmpI (a * d) (c * b)) := cmp_sizes hb0 hd0 hu
        rw [hu] at hcm
        clear hu
        obtain ⟨r, hr⟩ : ∃ r, cmpI ((a.natAbs * d.natAbs : Nat) : Int) ((c.natAbs * b.natAbs : Nat) : Int) = r := ⟨_, rfl⟩
        have hr1 := cmpI_cases ((a.natAbs * d.natAbs : Nat) : Int) ((c.natAbs * b.natAbs : Nat) : Int)
        rw [hr] at hr1 HS hsz
        clear hr
        obtain ⟨s, hs⟩ : ∃ s, cmpI a 0 = s := ⟨_, rfl⟩
        have hs1 := cmpI_cases a 0
        rw [hs] at hs1 HS sa hcm
        clear hs
        obtain ⟨t, ht⟩ : ∃ t, cmpI c 0 = t := ⟨_, rfl⟩
        rw [ht] at sc hcm
        clear ht
        obtain ⟨z, hz⟩ : ∃ z, s * r = z := ⟨_, rfl⟩
        have hz1 : -1 ≤ z ∧ z ≤ 1 := by rcases hs1 with rfl | rfl | rfl <;> rcases hr1 with rfl | rfl | rfl <;> omega
        have hz2 : wrap64 z = z := by unfold wrap64; omega
        have hz3 : IntKind.i64.wrap z = z := by rw [IntKind.wrap_i64]; omega
        rw [hz] at HS
        clear hs1 hr1
        go_enter Try.func42, Try.ntmps42
        go_wp2_with (first
          | (go_at_call 25; (with_reducible refine (v1 _).mono ?_); rintro e w1 ⟨rfl, hb1⟩; rw [← EW.out] at hb1; have kb1 := kb.later hb1 kb.lt; have e0 := kb1.c0; have e1 := kb1.c1)
          | (go_at_call 25; (with_reducible refine (v2 _).mono ?_); rintro e w2 ⟨rfl, hb2⟩))
        have ka2 := (ka.later hb1 ka.lt).later hb2 (Nat.lt_of_lt_of_le ka.lt hb1.size)
        have kb2 := kb1.later hb2 kb1.lt
        have kw2 := (kw.trans (hb1.mono kw.size)).trans (hb2.mono (kw.trans (hb1.mono kw.size)).size)
        clear e0 e1 kb1 v1 v2 EW
        have a0 := ka2.c0
        have a1 := ka2.c1
        have b0 := kb2.c0
        have b1 := kb2.c1
        go_quiet (first
          | (go_at_call 57; (with_reducible refine (sa _).mono ?_); rintro e w' ⟨rfl, rfl⟩; exact ⟨rfl, _, rfl⟩)
          | (go_at_call 57; (with_reducible refine (sc _).mono ?_); rintro e w' ⟨rfl, rfl⟩; exact ⟨rfl, _, rfl⟩)
          | (go_at_call 56; (with_reducible refine (hcm _).mono ?_); rintro e w' ⟨rfl, rfl⟩; exact ⟨rfl, _, rfl⟩))
        go_wp2
        have hne : Nonempty (Later (w2.drewN nq)) := ⟨⟨_, Below.refl _ _⟩⟩
        have LA : ∀ x : Later (w2.drewN nq), Var2 x.w w.heap.size (.int .i64 a) (.int .i64 b) := fun x => (ka2.later (bdrew (Below.refl w2.heap.size w2) nq) ka2.lt).later x.bel ka2.lt
        have LB : ∀ x : Later (w2.drewN nq), Var2 x.w (w.heap.size + 1) (.int .i64 c) (.int .i64 d) := fun x => (kb2.later (bdrew (Below.refl w2.heap.size w2) nq) kb2.lt).later x.bel kb2.lt
        have l0 := fun x => (LA x).c0
        have l1 := fun x => (LA x).c1
        have m0 := fun x => (LB x).c0
        have m1 := fun x => (LB x).c1
        clear LA LB
        refine wp_region_later (by kernel_rfl) (by kernel_rfl) ?_
        repeat (go_big_quiet_step (first
          | (rename_i x; go_at_call 57; (with_reducible refine (sa _).mono ?_); rintro e w' ⟨rfl, rfl⟩; exact ⟨rfl, x, rfl⟩)
          | (rename_i x; go_at_call 58; (with_reducible refine (hsz _).mono ?_); rintro e w' ⟨rfl, hq⟩; exact ⟨rfl, ⟨w', x.bel.trans (hq.mono x.bel.size)⟩, rfl⟩)))
        refine wpQuiet_nil ?_
        rintro w3 ⟨x, rfl⟩
        go_wp2
        go_ret2
        exact ⟨by rw [K.out.1, K.out.2, ← HS.out]; rfl, kw2.trans ((bdrew (Below.refl _ _) nq).trans (x.bel.mono kw2.size))⟩
      · have HS : Hid (cmpI (cmpI a 0) (cmpI c 0) = cmpI (a * d) (c * b)) := cmp_signs hb0 hd0 hu
        obtain ⟨r, hr⟩ : ∃ r, cmpI (cmpI a 0) (cmpI c 0) = r := ⟨_, rfl⟩
        rw [hr] at hu HS hcm
        clear hr
        have hr0 : (r != 0) = true := by simpa using hu
        clear hu
        generalize cmpI a 0 = s at *
        generalize cmpI c 0 = t at *
        go_enter Try.func42, Try.ntmps42
        go_wp2_with (first
          | (go_at_call 25; (with_reducible refine (v1 _).mono ?_); rintro e w1 ⟨rfl, hb1⟩; rw [← EW.out] at hb1; have kb1 := kb.later hb1 kb.lt; have e0 := kb1.c0; have e1 := kb1.c1)
          | (go_at_call 25; (with_reducible refine (v2 _).mono ?_); rintro e w2 ⟨rfl, hb2⟩))
        have ka2 := (ka.later hb1 ka.lt).later hb2 (Nat.lt_of_lt_of_le ka.lt hb1.size)
        have kb2 := kb1.later hb2 kb1.lt
        have kw2 := (kw.trans (hb1.mono kw.size)).trans (hb2.mono (kw.trans (hb1.mono kw.size)).size)
        clear e0 e1 kb1 v1 v2 EW
        have a0 := ka2.c0
        have b0 := kb2.c0
        go_quiet (first
          | (go_at_call 57; (with_reducible refine (sa _).mono ?_); rintro e w' ⟨rfl, rfl⟩; exact ⟨rfl, _, rfl⟩)
          | (go_at_call 57; (with_reducible refine (sc _).mono ?_); rintro e w' ⟨rfl, rfl⟩; exact ⟨rfl, _, rfl⟩)
          | (go_at_call 56; (with_reducible refine (hcm _).mono ?_); rintro e w' ⟨rfl, rfl⟩; exact ⟨rfl, _, rfl⟩))
        go_wp2
        go_ret2
        exact ⟨by rw [K.out.1, K.out.2, ← HS.out]; rfl, bdrew kw2 nq⟩
end Go.Proofs.Ytgjeihdibcjjcab
