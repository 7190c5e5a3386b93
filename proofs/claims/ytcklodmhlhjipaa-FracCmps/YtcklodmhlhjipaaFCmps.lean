/- The document's Cmp (pianolaref02), and the statement FracCmps. -/
import Derived.Test.YtcklodmhlhjipaaFrBig
import Derived.Test.YtcklodmhlhjipaaFrRef
namespace Go.Proofs.Ytcklodmhlhjipaa
open Go.ChangeShapes Go.WideShapes Go.ChangeAt Go.RowKit

set_option maxRecDepth 100000 in
set_option maxHeartbeats 2000000 in
theorem rcmp_yes (a b c d : Int) (w : World) (v1 : ∀ W, Calls Try.prog 13 #[.agg #[.int .i64 a, .int .i64 b]] W fun e w' => e = .returned (.bool true) ∧ Below W.heap.size W w') (v2 : ∀ W, Calls Try.prog 13 #[.agg #[.int .i64 c, .int .i64 d]] W fun e w' => e = .returned (.bool true) ∧ Below W.heap.size W w')
    (Oa : Hid (∀ W, Calls Try.prog 27 #[.int .i64 a] W (MadeWh W a 3))) (Ob : Hid (∀ W, Calls Try.prog 27 #[.int .i64 b] W (MadeWh W b 3))) (Oc : Hid (∀ W, Calls Try.prog 27 #[.int .i64 c] W (MadeWh W c 3))) (Od : Hid (∀ W, Calls Try.prog 27 #[.int .i64 d] W (MadeWh W d 3))) :
    Calls Try.prog 21 #[.agg #[.int .i64 a, .int .i64 b], .agg #[.int .i64 c, .int .i64 d]] w fun e w' => e = .returned (.tuple #[.int .i64 (cmpI (a * d) (c * b)), .int .i64 0]) ∧ Below w.heap.size w w' := by
  have HV : Hid (∃ W, W = (w.alloc (.cells #[.int .i64 a, .int .i64 b] 23)).alloc (.cells #[.int .i64 c, .int .i64 d] 23) ∧ Var2 W w.heap.size (.int .i64 a) (.int .i64 b) ∧ Var2 W (w.heap.size + 1) (.int .i64 c) (.int .i64 d) ∧ Below w.heap.size w W) := by
    refine ⟨_, rfl, ?_, ?_, ?_⟩
    · exact (var2_new w _ _ _).alloc _
    · exact var2_at _ _ _ _ (by simp)
    · exact ((Below.refl _ _).alloc (Nat.le_refl _) _).alloc (by simp) _
  obtain ⟨W, eW, ka, kb, kw⟩ := HV.out
  have EW : Hid (W = (w.alloc (.cells #[.int .i64 a, .int .i64 b] 23)).alloc (.cells #[.int .i64 c, .int .i64 d] 23)) := eW
  clear eW HV
  go_enter Try.func21, Try.ntmps21
  go_wp2_with (first
    | (go_at_call 13; (with_reducible refine (v1 _).mono ?_); rintro e w1 ⟨rfl, hb1⟩; rw [← EW.out] at hb1; have kb1 := kb.later hb1 kb.lt; have e0 := kb1.c0; have e1 := kb1.c1)
    | (go_at_call 13; (with_reducible refine (v2 _).mono ?_); rintro e w2 ⟨rfl, hb2⟩))
  have KA := (ka.later hb1 ka.lt).later hb2 (Nat.lt_of_lt_of_le ka.lt hb1.size)
  have KB := kb1.later hb2 kb1.lt
  have KW := (kw.trans (hb1.mono kw.size)).trans (hb2.mono (kw.trans (hb1.mono kw.size)).size)
  clear e0 e1 kb1 v1 v2 EW ka kb kw hb1 hb2
  refine wp_region_said 8 (fun i u v => match i with
      | 0 => v = .pointer (some ⟨w.heap.size, 0, none⟩)
      | 1 => v = .int .i64 a
      | 2 => IsWh u a 3 v
      | 3 => v = .pointer (some ⟨w.heap.size + 1, 1, none⟩)
      | 4 => v = .int .i64 d
      | 5 => IsWh u d 3 v
      | 6 => IsWh u (a * d) 6 v
      | 7 => IsNew w2.heap.size u (.bool false) (.slice none 0 0) v
      | _ => True) (by kernel_rfl) (by kernel_rfl) (by kernel_rfl) (by kernel_rfl) ?_ ?_ ?_
  · intro i w v w' h hb
    match i, h with
    | 0, h => exact h
    | 1, h => exact h
    | 2, h => exact IsWh.later h hb
    | 3, h => exact h
    | 4, h => exact h
    | 5, h => exact IsWh.later h hb
    | 6, h => exact IsWh.later h hb
    | 7, h => exact IsNew.later h hb
    | _ + 8, _ => trivial
  · intro i o ρ w' hi ho hb hc hf hfr hdep
    have Ga := KA.later hb KA.lt
    have Gb := KB.later hb KB.lt
    have g0 := Ga.c0
    have g1 := Ga.c1
    have g2 := Gb.c0
    have g3 := Gb.c1
    match i, hi with
    | 0, _ =>
      simp only [List.getElem?_toArray, List.getElem?_cons_zero, Option.some.injEq] at ho
      subst ho
      have ts : ρ (.tmp 2) = .pointer (some ⟨w.heap.size, 0, none⟩) := hfr 2 (by kernel_rfl)
      simp [go_sem, ts]
      exact ⟨Below.refl _ _, rfl⟩
    | 1, _ =>
      simp only [List.getElem?_toArray, List.getElem?_cons_zero, List.getElem?_cons_succ, Option.some.injEq] at ho
      subst ho
      have ts : ρ (.tmp 16) = .pointer (some ⟨w.heap.size, 0, none⟩) := hdep 0 16 (by kernel_rfl) (by kernel_rfl)
      simp [go_sem, ts, g0]
      exact ⟨Below.refl _ _, rfl⟩
    | 2, _ =>
      simp only [List.getElem?_toArray, List.getElem?_cons_zero, List.getElem?_cons_succ, Option.some.injEq] at ho
      subst ho
      have ts : ρ (.tmp 17) = .int .i64 a := hdep 1 17 (by kernel_rfl) (by kernel_rfl)
      simp [go_sem, ts, hf]
      exact ⟨rfl, of_said (Oa.out _)⟩
    | 3, _ =>
      simp only [List.getElem?_toArray, List.getElem?_cons_zero, List.getElem?_cons_succ, Option.some.injEq] at ho
      subst ho
      have ts : ρ (.tmp 3) = .pointer (some ⟨w.heap.size + 1, 0, none⟩) := hfr 3 (by kernel_rfl)
      simp [go_sem, ts]
      exact ⟨Below.refl _ _, rfl⟩
    | 4, _ =>
      simp only [List.getElem?_toArray, List.getElem?_cons_zero, List.getElem?_cons_succ, Option.some.injEq] at ho
      subst ho
      have ts : ρ (.tmp 19) = .pointer (some ⟨w.heap.size + 1, 1, none⟩) := hdep 3 19 (by kernel_rfl) (by kernel_rfl)
      simp [go_sem, ts, g3]
      exact ⟨Below.refl _ _, rfl⟩
    | 5, _ =>
      simp only [List.getElem?_toArray, List.getElem?_cons_zero, List.getElem?_cons_succ, Option.some.injEq] at ho
      subst ho
      have ts : ρ (.tmp 20) = .int .i64 d := hdep 4 20 (by kernel_rfl) (by kernel_rfl)
      simp [go_sem, ts, hf]
      exact ⟨rfl, of_said (Od.out _)⟩
    | 6, _ =>
      simp only [List.getElem?_toArray, List.getElem?_cons_zero, List.getElem?_cons_succ, Option.some.injEq] at ho
      subst ho
      obtain ⟨m0, a0, l0, p0, d0, e0, x0, y0⟩ : IsWh w' a 3 (ρ (.tmp 18)) := hdep 2 18 (by kernel_rfl) (by kernel_rfl)
      obtain ⟨m1, a1, l1, p1, d1, e1, x1, y1⟩ : IsWh w' d 3 (ρ (.tmp 21)) := hdep 5 21 (by kernel_rfl) (by kernel_rfl)
      simp [go_sem, e0, e1, hf]
      exact ⟨rfl, times_said ⟨m0, a0, l0, p0, d0, rfl, x0, y0⟩ ⟨m1, a1, l1, p1, d1, rfl, x1, y1⟩ (by decide)⟩
    | 7, _ =>
      simp only [List.getElem?_toArray, List.getElem?_cons_zero, List.getElem?_cons_succ, Option.some.injEq] at ho
      subst ho
      simp [go_sem]
      exact ⟨(Below.refl _ _).alloc (Nat.le_refl _) _, _, rfl, var2_new _ _ _ _, hb.size⟩
  · intro V w3 q3 hS
    have e0 : V 0 = .pointer (some ⟨w.heap.size, 0, none⟩) := hS 0 (by decide)
    have e1 : V 1 = .int .i64 a := hS 1 (by decide)
    obtain ⟨m2, a2, l2, p2, d2, e2, -, -⟩ : IsWh w3 a 3 (V 2) := hS 2 (by decide)
    have e3 : V 3 = .pointer (some ⟨w.heap.size + 1, 1, none⟩) := hS 3 (by decide)
    have e4 : V 4 = .int .i64 d := hS 4 (by decide)
    obtain ⟨m5, a5, l5, p5, d5, e5, -, -⟩ : IsWh w3 d 3 (V 5) := hS 5 (by decide)
    obtain ⟨m6, a6, l6, p6, d6, e6, hw6, -⟩ : IsWh w3 (a * d) 6 (V 6) := hS 6 (by decide)
    obtain ⟨b7, e7, Z7, B7⟩ : IsNew w2.heap.size w3 (.bool false) (.slice none 0 0) (V 7) := hS 7 (by decide)
    simp only [List.drop_succ_cons, List.drop_zero, List.take_succ_cons, List.take_zero, puts, e0, e1, e2, e3, e4, e5, e6, e7]
    clear hS e0 e1 e2 e3 e4 e5 e6 e7 V
    have X3 := Z7.put (.bool m6) (.slice a6 l6 p6)
    have hx3 := hw6.store2 Z7 (fun _ h => by cases h) (fun _ h => by cases h) (.bool m6) (.slice a6 l6 p6)
    have q3' := (q3.setCell (p := ⟨b7, 0, none⟩) B7 (.bool m6)).setCell (p := ⟨b7, 1, none⟩) B7 (.slice a6 l6 p6)
    have z0 := Z7.c0
    have z1 := Z7.c1
    have zf0 := Z7.f0
    have zf1 := Z7.f1
    have LA := KA.later q3' KA.lt
    have LB := KB.later q3' KB.lt
    have LW := KW.trans (q3'.mono KW.size)
    clear KA KB KW q3 q3' Z7 hw6
    go_wp2
    clear z0 z1 zf0 zf1
    generalize ((w3.setCell ⟨b7, 0, none⟩ (.bool m6)).setCell ⟨b7, 1, none⟩ (.slice a6 l6 p6)) = w4 at *
    have KA := LA
    have KB := LB
    clear LA LB
    refine wp_region_said 8 (fun i u v => match i with
        | 0 => v = .pointer (some ⟨w.heap.size + 1, 0, none⟩)
        | 1 => v = .int .i64 c
        | 2 => IsWh u c 3 v
        | 3 => v = .pointer (some ⟨w.heap.size, 1, none⟩)
        | 4 => v = .int .i64 b
        | 5 => IsWh u b 3 v
        | 6 => IsWh u (c * b) 6 v
        | 7 => IsNew w4.heap.size u (.bool false) (.slice none 0 0) v
        | _ => True) (by kernel_rfl) (by kernel_rfl) (by kernel_rfl) (by kernel_rfl) ?_ ?_ ?_
    · intro i w v w' h hb
      match i, h with
      | 0, h => exact h
      | 1, h => exact h
      | 2, h => exact IsWh.later h hb
      | 3, h => exact h
      | 4, h => exact h
      | 5, h => exact IsWh.later h hb
      | 6, h => exact IsWh.later h hb
      | 7, h => exact IsNew.later h hb
      | _ + 8, _ => trivial
    · intro i o ρ w' hi ho hb hc hf hfr hdep
      have Ga := KA.later hb KA.lt
      have Gb := KB.later hb KB.lt
      have g0 := Ga.c0
      have g1 := Ga.c1
      have g2 := Gb.c0
      have g3 := Gb.c1
      match i, hi with
      | 0, _ =>
        simp only [List.getElem?_toArray, List.getElem?_cons_zero, Option.some.injEq] at ho
        subst ho
        have ts : ρ (.tmp 3) = .pointer (some ⟨w.heap.size + 1, 0, none⟩) := hfr 3 (by kernel_rfl)
        simp [go_sem, ts]
        exact ⟨Below.refl _ _, rfl⟩
      | 1, _ =>
        simp only [List.getElem?_toArray, List.getElem?_cons_zero, List.getElem?_cons_succ, Option.some.injEq] at ho
        subst ho
        have ts : ρ (.tmp 23) = .pointer (some ⟨w.heap.size + 1, 0, none⟩) := hdep 0 23 (by kernel_rfl) (by kernel_rfl)
        simp [go_sem, ts, g2]
        exact ⟨Below.refl _ _, rfl⟩
      | 2, _ =>
        simp only [List.getElem?_toArray, List.getElem?_cons_zero, List.getElem?_cons_succ, Option.some.injEq] at ho
        subst ho
        have ts : ρ (.tmp 24) = .int .i64 c := hdep 1 24 (by kernel_rfl) (by kernel_rfl)
        simp [go_sem, ts, hf]
        exact ⟨rfl, of_said (Oc.out _)⟩
      | 3, _ =>
        simp only [List.getElem?_toArray, List.getElem?_cons_zero, List.getElem?_cons_succ, Option.some.injEq] at ho
        subst ho
        have ts : ρ (.tmp 2) = .pointer (some ⟨w.heap.size, 0, none⟩) := hfr 2 (by kernel_rfl)
        simp [go_sem, ts]
        exact ⟨Below.refl _ _, rfl⟩
      | 4, _ =>
        simp only [List.getElem?_toArray, List.getElem?_cons_zero, List.getElem?_cons_succ, Option.some.injEq] at ho
        subst ho
        have ts : ρ (.tmp 26) = .pointer (some ⟨w.heap.size, 1, none⟩) := hdep 3 26 (by kernel_rfl) (by kernel_rfl)
        simp [go_sem, ts, g1]
        exact ⟨Below.refl _ _, rfl⟩
      | 5, _ =>
        simp only [List.getElem?_toArray, List.getElem?_cons_zero, List.getElem?_cons_succ, Option.some.injEq] at ho
        subst ho
        have ts : ρ (.tmp 27) = .int .i64 b := hdep 4 27 (by kernel_rfl) (by kernel_rfl)
        simp [go_sem, ts, hf]
        exact ⟨rfl, of_said (Ob.out _)⟩
      | 6, _ =>
        simp only [List.getElem?_toArray, List.getElem?_cons_zero, List.getElem?_cons_succ, Option.some.injEq] at ho
        subst ho
        obtain ⟨m0, a0, l0, p0, d0, e0, x0, y0⟩ : IsWh w' c 3 (ρ (.tmp 25)) := hdep 2 25 (by kernel_rfl) (by kernel_rfl)
        obtain ⟨m1, a1, l1, p1, d1, e1, x1, y1⟩ : IsWh w' b 3 (ρ (.tmp 28)) := hdep 5 28 (by kernel_rfl) (by kernel_rfl)
        simp [go_sem, e0, e1, hf]
        exact ⟨rfl, times_said ⟨m0, a0, l0, p0, d0, rfl, x0, y0⟩ ⟨m1, a1, l1, p1, d1, rfl, x1, y1⟩ (by decide)⟩
      | 7, _ =>
        simp only [List.getElem?_toArray, List.getElem?_cons_zero, List.getElem?_cons_succ, Option.some.injEq] at ho
        subst ho
        simp [go_sem]
        exact ⟨(Below.refl _ _).alloc (Nat.le_refl _) _, _, rfl, var2_new _ _ _ _, hb.size⟩
    · intro V w5 q5 hS
      have e0 : V 0 = .pointer (some ⟨w.heap.size + 1, 0, none⟩) := hS 0 (by decide)
      have e1 : V 1 = .int .i64 c := hS 1 (by decide)
      obtain ⟨m2, a2, l2, p2, d2, e2, -, -⟩ : IsWh w5 c 3 (V 2) := hS 2 (by decide)
      have e3 : V 3 = .pointer (some ⟨w.heap.size, 1, none⟩) := hS 3 (by decide)
      have e4 : V 4 = .int .i64 b := hS 4 (by decide)
      obtain ⟨m5, a5, l5, p5, d5, e5, -, -⟩ : IsWh w5 b 3 (V 5) := hS 5 (by decide)
      obtain ⟨m6b, a6b, l6b, p6b, d6b, e6, hw6b, -⟩ : IsWh w5 (c * b) 6 (V 6) := hS 6 (by decide)
      obtain ⟨b7b, e7, Z7, B7⟩ : IsNew w4.heap.size w5 (.bool false) (.slice none 0 0) (V 7) := hS 7 (by decide)
      simp only [List.drop_succ_cons, List.drop_zero, List.take_succ_cons, List.take_zero, puts, e0, e1, e2, e3, e4, e5, e6, e7]
      clear hS e0 e1 e2 e3 e4 e5 e6 e7 V
      have Y5 := Z7.put (.bool m6b) (.slice a6b l6b p6b)
      have hy5 := hw6b.store2 Z7 (fun _ h => by cases h) (fun _ h => by cases h) (.bool m6b) (.slice a6b l6b p6b)
      have q5' := (q5.setCell (p := ⟨b7b, 0, none⟩) B7 (.bool m6b)).setCell (p := ⟨b7b, 1, none⟩) B7 (.slice a6b l6b p6b)
      have z0 := Z7.c0
      have z1 := Z7.c1
      have zf0 := Z7.f0
      have zf1 := Z7.f1
      have X5 := X3.later q5' X3.lt
      have hx5 := hx3.below q5'
      have LW5 := LW.trans (q5'.mono LW.size)
      have x0 := X5.c0
      have x1 := X5.c1
      have y0 := Y5.c0
      have y1 := Y5.c1
      clear KA KB LW q5 q5' Z7 hw6b
      go_wp2_with (go_at_call 28; refine (cmp_any _ _ _ _ _ _ _ _ _ _ _ _ _ hx5 hy5).mono ?_; rintro e w6 ⟨rfl, hb6⟩)
      go_ret2
      exact ⟨rfl, LW5.trans (hb6.mono LW5.size)⟩


set_option maxRecDepth 100000 in
set_option maxHeartbeats 1000000 in
theorem rcmp_any (a b c d : Int) (w : World) (ha : -9223372036854775808 ≤ a ∧ a ≤ 9223372036854775807) (hb : -9223372036854775808 ≤ b ∧ b ≤ 9223372036854775807) (hc : -9223372036854775808 ≤ c ∧ c ≤ 9223372036854775807) (hd : -9223372036854775808 ≤ d ∧ d ≤ 9223372036854775807) :
    Calls Try.prog 21 #[.agg #[.int .i64 a, .int .i64 b], .agg #[.int .i64 c, .int .i64 d]] w fun e w' => e = .returned (.tuple #[.int .i64 (cmpV a b c d), .int .i64 (cmpE a b c d)]) ∧ Below w.heap.size w w' := by
  have v1 := fun w => rvalid_any a b w ha hb
  have v2 := fun w => rvalid_any c d w hc hd
  have HV : Hid (∃ W, W = (w.alloc (.cells #[.int .i64 a, .int .i64 b] 23)).alloc (.cells #[.int .i64 c, .int .i64 d] 23) ∧ Var2 W (w.heap.size + 1) (.int .i64 c) (.int .i64 d) ∧ Below w.heap.size w W) := by
    refine ⟨_, rfl, ?_, ?_⟩
    · exact var2_at _ _ _ _ (by simp)
    · exact ((Below.refl _ _).alloc (Nat.le_refl _) _).alloc (by simp) _
  obtain ⟨W, eW, kb, kw⟩ := HV.out
  have EW : Hid (W = (w.alloc (.cells #[.int .i64 a, .int .i64 b] 23)).alloc (.cells #[.int .i64 c, .int .i64 d] 23)) := eW
  clear eW HV
  cases h1 : validB a b
  · have K : Hid (cmpV a b c d = 0 ∧ cmpE a b c d = 1) := ⟨by unfold cmpV; rw [h1]; rfl, by unfold cmpE; rw [h1]; rfl⟩
    rw [h1] at v1
    clear h1
    go_enter Try.func21, Try.ntmps21
    go_wp2_with (go_at_call 13; refine (v1 _).mono ?_; rintro e w1 ⟨rfl, hb1⟩; rw [← EW.out] at hb1)
    go_ret2
    exact ⟨by rw [K.out.1, K.out.2]; rfl, kw.trans (hb1.mono kw.size)⟩
  · cases h2 : validB c d
    · have K : Hid (cmpV a b c d = 0 ∧ cmpE a b c d = 1) := ⟨by unfold cmpV; rw [h1, h2]; rfl, by unfold cmpE; rw [h1, h2]; rfl⟩
      rw [h1] at v1
      rw [h2] at v2
      clear h1 h2
      go_enter Try.func21, Try.ntmps21
      go_wp2_with (first
        | (go_at_call 13; (with_reducible refine (v1 _).mono ?_); rintro e w1 ⟨rfl, hb1⟩; rw [← EW.out] at hb1; have kb1 := kb.later hb1 kb.lt; have e0 := kb1.c0; have e1 := kb1.c1)
        | (go_at_call 13; (with_reducible refine (v2 _).mono ?_); rintro e w2 ⟨rfl, hb2⟩))
      go_ret2
      exact ⟨by rw [K.out.1, K.out.2]; rfl, (kw.trans (hb1.mono kw.size)).trans (hb2.mono (kw.trans (hb1.mono kw.size)).size)⟩
    · rw [h1] at v1
      rw [h2] at v2
      have k1 : cmpV a b c d = cmpI (a * d) (c * b) := by unfold cmpV; rw [h1, h2]; rfl
      have k2 : cmpE a b c d = 0 := by unfold cmpE; rw [h1, h2]; rfl
      rw [k1, k2]
      exact rcmp_yes a b c d w v1 v2 (fun W => of_any a W ha) (fun W => of_any b W hb) (fun W => of_any c W hc) (fun W => of_any d W hd)

set_option maxRecDepth 100000 in
set_option maxHeartbeats 1000000 in
theorem cmps_any (a b c d : Int) (w : World) (ha : -9223372036854775808 ≤ a ∧ a ≤ 9223372036854775807) (hb : -9223372036854775808 ≤ b ∧ b ≤ 9223372036854775807) (hc : -9223372036854775808 ≤ c ∧ c ≤ 9223372036854775807) (hd : -9223372036854775808 ≤ d ∧ d ≤ 9223372036854775807) :
    Calls Try.prog 6 #[.agg #[.int .i64 a, .int .i64 b], .agg #[.int .i64 c, .int .i64 d]] w fun e w' => e = .returned (.bool true) ∧ Below w.heap.size w w' := by
  have h1 := fun w => cmp_frac a b c d w ha hb hc hd
  have h2 := fun w => rcmp_any a b c d w ha hb hc hd
  generalize cmpV a b c d = x at *
  generalize cmpE a b c d = y at *
  have q1 : (x == x) = true := by simp
  have q2 : (y == y) = true := by simp
  have HV : Hid (∃ W, W = (w.alloc (.cells #[.int .i64 a, .int .i64 b] 23)).alloc (.cells #[.int .i64 c, .int .i64 d] 23) ∧ Var2 W w.heap.size (.int .i64 a) (.int .i64 b) ∧ Var2 W (w.heap.size + 1) (.int .i64 c) (.int .i64 d) ∧ Below w.heap.size w W) := by
    refine ⟨_, rfl, ?_, ?_, ?_⟩
    · exact (var2_new w _ _ _).alloc _
    · exact var2_at _ _ _ _ (by simp)
    · exact ((Below.refl _ _).alloc (Nat.le_refl _) _).alloc (by simp) _
  obtain ⟨W, eW, ka, kb, kw⟩ := HV.out
  have EW : Hid (W = (w.alloc (.cells #[.int .i64 a, .int .i64 b] 23)).alloc (.cells #[.int .i64 c, .int .i64 d] 23)) := eW
  clear eW HV ha hb hc hd
  go_enter Try.func6, Try.ntmps6
  go_wp2_with (first
    | (go_at_call 20; refine (h1 _).mono ?_; rintro e w1 ⟨rfl, hb1⟩; rw [← EW.out] at hb1; have ka1 := ka.later hb1 ka.lt; have kb1 := kb.later hb1 kb.lt; have e0 := ka1.c0; have e1 := ka1.c1; have e2 := kb1.c0; have e3 := kb1.c1; have kw1 := kw.trans (hb1.mono kw.size))
    | (go_at_call 21; refine (h2 _).mono ?_; rintro e w2 ⟨rfl, hb2⟩; have kw2 := kw1.trans (hb2.mono kw1.size))
    | (go_at_call 12; refine (awake2 _).mono ?_; rintro e w3 ⟨rfl, hb3⟩))
  go_ret
  exact ⟨rfl, kw2.trans (hb3.mono kw2.size)⟩
end Go.Proofs.Ytcklodmhlhjipaa
