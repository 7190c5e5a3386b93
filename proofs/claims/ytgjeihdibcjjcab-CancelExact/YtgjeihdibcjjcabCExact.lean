/- The walk through the statement CancelExact. (Written by tmpl/mkCExact.py.) -/
import Derived.Test.YtgjeihdibcjjcabCRef
import Derived.Test.YtgjeihdibcjjcabCTurns
import Derived.Test.YtgjeihdibcjjcabRefGcd
namespace Go.Proofs.Ytgjeihdibcjjcab
open Go.ChangeShapes Go.WideShapes Go.ChangeAt Go.RowKit

theorem rt_turn (xs ys : List Int) : rtN ys xs = rtD xs ys ∧ rtD ys xs = rtN xs ys ∧ rtE ys xs = rtE xs ys := by
  have e1 : rP ys xs = rQ xs ys := by unfold rP rQ; rw [(red_turn (nats xs) (nats ys)).1]
  have e2 : rQ ys xs = rP xs ys := by unfold rP rQ; rw [(red_turn (nats xs) (nats ys)).2]
  have e3 : rtB ys xs = rtB xs ys := by unfold rtB; rw [e1, e2, Bool.and_comm]
  unfold rtN rtD rtE
  rw [cE_turn xs ys, e1, e2, e3]
  exact ⟨rfl, rfl, rfl⟩
theorem eq_rt {xs ys : List Int} (h : cE xs ys = 0) : eqB xs ys = (decide ((rP xs ys : Int) = 1) && decide ((rQ xs ys : Int) = 1)) := by
  rw [eqB_ok h, (cA_ok h).1, (cA_ok h).2, oneB_up, oneB_up]
  unfold rP rQ
  congr 1
  · rw [Bool.eq_iff_iff, ones_iff, decide_eq_true_iff]; omega
  · rw [Bool.eq_iff_iff, ones_iff, decide_eq_true_iff]; omega

set_option maxRecDepth 100000 in
set_option maxHeartbeats 1000000 in
theorem cexact_arg (a1 : Option Addr) (len1 cap1 : Nat) (xs : List Int) (a2 : Option Addr) (len2 cap2 : Nat) (ys : List Int) (w : World) (hA1 : Arg w a1 len1 cap1 xs) (hA2 : Arg w a2 len2 cap2 ys) (h0 : cE xs ys ≠ 0) :
    Calls Try.prog 3 #[.slice a1 len1 cap1, .slice a2 len2 cap2] w fun e w' => e = .returned (.bool true) ∧ Below w.heap.size w w' := by
  have hr1 := hA1.reach
  have hr2 := hA2.reach
  have I1 : Hid (∀ W, Arg W a1 len1 cap1 xs → Calls Try.prog 8 #[.slice a1 len1 cap1] W (Copied W len1 xs)) := fun W h => ints_any a1 xs len1 cap1 W h
  have I2 : Hid (∀ W, Arg W a2 len2 cap2 ys → Calls Try.prog 8 #[.slice a2 len2 cap2] W (Copied W len2 ys)) := fun W h => ints_any a2 ys len2 cap2 W h
  have R1 : Hid (∀ b1 b2 c1 c2 W, At W b1 xs → At W b2 ys → Calls Try.prog 7 #[.slice b1 len1 c1, .slice b2 len2 c2] W (RtEnd W xs ys)) :=
    fun b1 b2 c1 c2 W k1 k2 => ratio_any b1 b2 xs ys len1 c1 len2 c2 W hA1.size hA2.size (by omega) (by omega) hA1.fits hA2.fits k1 k2
  have R2 : Hid (∀ b1 b2 c1 c2 W, At W b1 ys → At W b2 xs → Calls Try.prog 7 #[.slice b1 len2 c1, .slice b2 len1 c2] W (RtEnd W ys xs)) :=
    fun b1 b2 c1 c2 W k1 k2 => ratio_any b1 b2 ys xs len2 c1 len1 c2 W hA2.size hA1.size (by omega) (by omega) hA2.fits hA1.fits k1 k2
  have Q1 : Hid (∀ b1 b2 c1 c2 W, At W b1 xs → At W b2 ys → Calls Try.prog 9 #[.slice b1 len1 c1, .slice b2 len2 c2] W (EqEnd W xs ys)) :=
    fun b1 b2 c1 c2 W k1 k2 => equal_any b1 b2 xs ys len1 c1 len2 c2 W hA1.size hA2.size (by omega) (by omega) hA1.fits hA2.fits k1 k2
  have HA1 : Hid (Arg w a1 len1 cap1 xs) := hA1
  have HA2 : Hid (Arg w a2 len2 cap2 ys) := hA2
  obtain ⟨t1, t2, t3⟩ := rt_turn xs ys
  unfold RtEnd at R1 R2
  unfold EqEnd at Q1
  rw [t1, t2, t3] at R2
  obtain ⟨g1, g2, g3⟩ := rt_bad h0
  have hv := eqB_bad h0
  rw [g1, g2, g3] at R1 R2
  rw [hv] at Q1
  clear hA1 hA2 g1 g2 g3 hv t1 t2 t3
  generalize cE xs ys = E at *
  have q1 : (E != E) = false := by simp
  have q2 : (E == E) = true := by simp
  have q3 : (E != 0) = true := by simpa using h0
  clear h0
  go_enter Try.func3, Try.ntmps3
  go_wp2_with (first
    | (go_at_call 10; (with_reducible refine (awake3 _).mono ?_); rintro e w10 ⟨rfl, b10⟩; have F10 := F9.trans (b10.mono F9.size); have X10 := X9.later b10 X9.lt; have s0 := X10.c0; have s1 := X10.c1)
    | (go_at_call 9; (with_reducible refine (Q1.out _ _ _ _ w8 k7b k8).mono ?_); rintro e w9 ⟨rfl, b9⟩; have M9 := M8.trans (b9.mono M8.size); have F9 := F8.trans (b9.mono F8.size); have X9 := X6.later M9 X6.lt; have Y9 := Y6.later M9 Y6.lt; have r0 := X9.c0; have r1 := X9.c1)
    | (go_at_call 8; (with_reducible refine (I2.out w7 (HA2.out.below F7)).mono ?_); rintro e w8 ⟨x8, cp8, rfl, k8, b8, -⟩; have k7b := k7.below b8; have M8 := b7.trans (b8.mono b7.size); have F8 := F7.trans (b8.mono F7.size))
    | (go_at_call 8; (with_reducible refine (I1.out _ (HA1.out.below F6)).mono ?_); rintro e w7 ⟨x7, cp7, rfl, k7, b7, -⟩; have F7 := F6.trans (b7.mono F6.size))
    | (go_at_call 7; (with_reducible refine (R2.out _ _ _ _ w5 k4b k5).mono ?_); rintro e w6 ⟨rfl, b6⟩; have M6' := M5.trans (b6.mono M5.size); have M6 := M6'.alloc M6'.size (.cells #[.int .i64 0, .int .i64 0] 24); have F6' := F5.trans (b6.mono F5.size); have F6 := F6'.alloc F6'.size (.cells #[.int .i64 0, .int .i64 0] 24); have X6 := X3.later M6 X3.lt; have Y6 := var2_new w6 (.int .i64 0) (.int .i64 0) 24)
    | (go_at_call 8; (with_reducible refine (I1.out w4 (HA1.out.below F4)).mono ?_); rintro e w5 ⟨x5, cp5, rfl, k5, b5, -⟩; have k4b := k4.below b5; have M5 := b4.trans (b5.mono b4.size); have F5 := F4.trans (b5.mono F4.size))
    | (go_at_call 8; (with_reducible refine (I2.out _ (HA2.out.below F3)).mono ?_); rintro e w4 ⟨x4, cp4, rfl, k4, b4, -⟩; have F4 := F3.trans (b4.mono F3.size))
    | (go_at_call 7; (with_reducible refine (R1.out _ _ _ _ w2 k1b k2).mono ?_); rintro e w3 ⟨rfl, b3⟩; have F3' := F2.trans (b3.mono F2.size); have F3 := F3'.alloc F3'.size (.cells #[.int .i64 0, .int .i64 0] 24); have X3 := var2_new w3 (.int .i64 0) (.int .i64 0) 24)
    | (go_at_call 8; (with_reducible refine (I2.out w1 (HA2.out.below b1)).mono ?_); rintro e w2 ⟨x2, cp2, rfl, k2, b2, -⟩; have k1b := k1.below b2; have F2 := b1.trans (b2.mono b1.size))
    | (go_at_call 8; (with_reducible refine (I1.out w HA1.out).mono ?_); rintro e w1 ⟨x1, cp1, rfl, k1, b1, -⟩))
  go_ret
  exact ⟨rfl, F10⟩

set_option maxRecDepth 100000 in
set_option maxHeartbeats 1000000 in
theorem cexact_big (a1 : Option Addr) (len1 cap1 : Nat) (xs : List Int) (a2 : Option Addr) (len2 cap2 : Nat) (ys : List Int) (w : World) (hA1 : Arg w a1 len1 cap1 xs) (hA2 : Arg w a2 len2 cap2 ys) (h0 : cE xs ys = 0) (h2 : rtB xs ys = false) :
    Calls Try.prog 3 #[.slice a1 len1 cap1, .slice a2 len2 cap2] w fun e w' => e = .returned (.bool true) ∧ Below w.heap.size w w' := by
  have hr1 := hA1.reach
  have hr2 := hA2.reach
  have I1 : Hid (∀ W, Arg W a1 len1 cap1 xs → Calls Try.prog 8 #[.slice a1 len1 cap1] W (Copied W len1 xs)) := fun W h => ints_any a1 xs len1 cap1 W h
  have I2 : Hid (∀ W, Arg W a2 len2 cap2 ys → Calls Try.prog 8 #[.slice a2 len2 cap2] W (Copied W len2 ys)) := fun W h => ints_any a2 ys len2 cap2 W h
  have R1 : Hid (∀ b1 b2 c1 c2 W, At W b1 xs → At W b2 ys → Calls Try.prog 7 #[.slice b1 len1 c1, .slice b2 len2 c2] W (RtEnd W xs ys)) :=
    fun b1 b2 c1 c2 W k1 k2 => ratio_any b1 b2 xs ys len1 c1 len2 c2 W hA1.size hA2.size (by omega) (by omega) hA1.fits hA2.fits k1 k2
  have R2 : Hid (∀ b1 b2 c1 c2 W, At W b1 ys → At W b2 xs → Calls Try.prog 7 #[.slice b1 len2 c1, .slice b2 len1 c2] W (RtEnd W ys xs)) :=
    fun b1 b2 c1 c2 W k1 k2 => ratio_any b1 b2 ys xs len2 c1 len1 c2 W hA2.size hA1.size (by omega) (by omega) hA2.fits hA1.fits k1 k2
  have Q1 : Hid (∀ b1 b2 c1 c2 W, At W b1 xs → At W b2 ys → Calls Try.prog 9 #[.slice b1 len1 c1, .slice b2 len2 c2] W (EqEnd W xs ys)) :=
    fun b1 b2 c1 c2 W k1 k2 => equal_any b1 b2 xs ys len1 c1 len2 c2 W hA1.size hA2.size (by omega) (by omega) hA1.fits hA2.fits k1 k2
  have HA1 : Hid (Arg w a1 len1 cap1 xs) := hA1
  have HA2 : Hid (Arg w a2 len2 cap2 ys) := hA2
  obtain ⟨t1, t2, t3⟩ := rt_turn xs ys
  unfold RtEnd at R1 R2
  unfold EqEnd at Q1
  rw [t1, t2, t3] at R2
  obtain ⟨g1, g2, g3⟩ := rt_big h0 h2
  have hv : eqB xs ys = false := by
    rw [eq_rt h0]
    cases e1 : decide ((rP xs ys : Int) = 1) with
    | false => rfl
    | true =>
      cases e2 : decide ((rQ xs ys : Int) = 1) with
      | false => rfl
      | true =>
        rw [decide_eq_true_iff] at e1 e2
        unfold rtB at h2
        rw [e1, e2] at h2
        exact absurd h2 (by decide)
  rw [g1, g2, g3] at R1 R2
  rw [hv, h0] at Q1
  clear hA1 hA2 g1 g2 g3 hv h0 h2 t1 t2 t3
  go_enter Try.func3, Try.ntmps3
  go_wp2_with (first
    | (go_at_call 10; (with_reducible refine (awake3 _).mono ?_); rintro e w10 ⟨rfl, b10⟩; have F10 := F9.trans (b10.mono F9.size); have X10 := X9.later b10 X9.lt; have s0 := X10.c0; have s1 := X10.c1)
    | (go_at_call 9; (with_reducible refine (Q1.out _ _ _ _ w8 k7b k8).mono ?_); rintro e w9 ⟨rfl, b9⟩; have M9 := M8.trans (b9.mono M8.size); have F9 := F8.trans (b9.mono F8.size); have X9 := X6.later M9 X6.lt; have Y9 := Y6.later M9 Y6.lt; have r0 := X9.c0; have r1 := X9.c1)
    | (go_at_call 8; (with_reducible refine (I2.out w7 (HA2.out.below F7)).mono ?_); rintro e w8 ⟨x8, cp8, rfl, k8, b8, -⟩; have k7b := k7.below b8; have M8 := b7.trans (b8.mono b7.size); have F8 := F7.trans (b8.mono F7.size))
    | (go_at_call 8; (with_reducible refine (I1.out _ (HA1.out.below F6)).mono ?_); rintro e w7 ⟨x7, cp7, rfl, k7, b7, -⟩; have F7 := F6.trans (b7.mono F6.size))
    | (go_at_call 7; (with_reducible refine (R2.out _ _ _ _ w5 k4b k5).mono ?_); rintro e w6 ⟨rfl, b6⟩; have M6' := M5.trans (b6.mono M5.size); have M6 := M6'.alloc M6'.size (.cells #[.int .i64 0, .int .i64 0] 24); have F6' := F5.trans (b6.mono F5.size); have F6 := F6'.alloc F6'.size (.cells #[.int .i64 0, .int .i64 0] 24); have X6 := X3.later M6 X3.lt; have Y6 := var2_new w6 (.int .i64 0) (.int .i64 0) 24)
    | (go_at_call 8; (with_reducible refine (I1.out w4 (HA1.out.below F4)).mono ?_); rintro e w5 ⟨x5, cp5, rfl, k5, b5, -⟩; have k4b := k4.below b5; have M5 := b4.trans (b5.mono b4.size); have F5 := F4.trans (b5.mono F4.size))
    | (go_at_call 8; (with_reducible refine (I2.out _ (HA2.out.below F3)).mono ?_); rintro e w4 ⟨x4, cp4, rfl, k4, b4, -⟩; have F4 := F3.trans (b4.mono F3.size))
    | (go_at_call 7; (with_reducible refine (R1.out _ _ _ _ w2 k1b k2).mono ?_); rintro e w3 ⟨rfl, b3⟩; have F3' := F2.trans (b3.mono F2.size); have F3 := F3'.alloc F3'.size (.cells #[.int .i64 0, .int .i64 0] 24); have X3 := var2_new w3 (.int .i64 0) (.int .i64 0) 24)
    | (go_at_call 8; (with_reducible refine (I2.out w1 (HA2.out.below b1)).mono ?_); rintro e w2 ⟨x2, cp2, rfl, k2, b2, -⟩; have k1b := k1.below b2; have F2 := b1.trans (b2.mono b1.size))
    | (go_at_call 8; (with_reducible refine (I1.out w HA1.out).mono ?_); rintro e w1 ⟨x1, cp1, rfl, k1, b1, -⟩))
  go_ret
  exact ⟨rfl, F10⟩

set_option maxRecDepth 100000 in
set_option maxHeartbeats 1000000 in
theorem cexact_ok (a1 : Option Addr) (len1 cap1 : Nat) (xs : List Int) (a2 : Option Addr) (len2 cap2 : Nat) (ys : List Int) (w : World) (hA1 : Arg w a1 len1 cap1 xs) (hA2 : Arg w a2 len2 cap2 ys) (h0 : cE xs ys = 0) (h2 : rtB xs ys = true) :
    Calls Try.prog 3 #[.slice a1 len1 cap1, .slice a2 len2 cap2] w fun e w' => e = .returned (.bool true) ∧ Below w.heap.size w w' := by
  have hr1 := hA1.reach
  have hr2 := hA2.reach
  have I1 : Hid (∀ W, Arg W a1 len1 cap1 xs → Calls Try.prog 8 #[.slice a1 len1 cap1] W (Copied W len1 xs)) := fun W h => ints_any a1 xs len1 cap1 W h
  have I2 : Hid (∀ W, Arg W a2 len2 cap2 ys → Calls Try.prog 8 #[.slice a2 len2 cap2] W (Copied W len2 ys)) := fun W h => ints_any a2 ys len2 cap2 W h
  have R1 : Hid (∀ b1 b2 c1 c2 W, At W b1 xs → At W b2 ys → Calls Try.prog 7 #[.slice b1 len1 c1, .slice b2 len2 c2] W (RtEnd W xs ys)) :=
    fun b1 b2 c1 c2 W k1 k2 => ratio_any b1 b2 xs ys len1 c1 len2 c2 W hA1.size hA2.size (by omega) (by omega) hA1.fits hA2.fits k1 k2
  have R2 : Hid (∀ b1 b2 c1 c2 W, At W b1 ys → At W b2 xs → Calls Try.prog 7 #[.slice b1 len2 c1, .slice b2 len1 c2] W (RtEnd W ys xs)) :=
    fun b1 b2 c1 c2 W k1 k2 => ratio_any b1 b2 ys xs len2 c1 len1 c2 W hA2.size hA1.size (by omega) (by omega) hA2.fits hA1.fits k1 k2
  have Q1 : Hid (∀ b1 b2 c1 c2 W, At W b1 xs → At W b2 ys → Calls Try.prog 9 #[.slice b1 len1 c1, .slice b2 len2 c2] W (EqEnd W xs ys)) :=
    fun b1 b2 c1 c2 W k1 k2 => equal_any b1 b2 xs ys len1 c1 len2 c2 W hA1.size hA2.size (by omega) (by omega) hA1.fits hA2.fits k1 k2
  have HA1 : Hid (Arg w a1 len1 cap1 xs) := hA1
  have HA2 : Hid (Arg w a2 len2 cap2 ys) := hA2
  obtain ⟨t1, t2, t3⟩ := rt_turn xs ys
  unfold RtEnd at R1 R2
  unfold EqEnd at Q1
  rw [t1, t2, t3] at R2
  obtain ⟨z1, z2, p1, p2⟩ := cE_zero h0
  have hs1 := hA1.size
  have hs2 := hA2.size
  obtain ⟨g1, g2, g3⟩ := rt_ok h0 h2
  obtain ⟨k1, k2, k3⟩ := r_facts h0
  unfold rtB at h2
  rw [Bool.and_eq_true, fitB_true, fitB_true] at h2
  have hv : eqB xs ys = (decide ((rP xs ys : Int) = 1) && decide ((rQ xs ys : Int) = 1)) := eq_rt h0
  have hx : prodI ys * (rP xs ys : Int) = prodI xs * (rQ xs ys : Int) := by
    rw [prodI_nats p1, prodI_nats p2, ← Int.natCast_mul, ← Int.natCast_mul]
    unfold rP rQ
    rw [red_prod]
  rw [g1, g2, g3] at R1 R2
  rw [h0, hv] at Q1
  have P1 : Hid (∀ W, At W a1 xs → Calls Try.prog 13 #[.slice a1 len1 cap1] W (MadeWh W (prodI xs) (3 + 3 * len1))) := fun W k => product_wh a1 xs len1 cap1 W hs1 (by omega) hA1.fits k
  have P2 : Hid (∀ W, At W a2 ys → Calls Try.prog 13 #[.slice a2 len2 cap2] W (MadeWh W (prodI ys) (3 + 3 * len2))) := fun W k => product_wh a2 ys len2 cap2 W hs2 (by omega) hA2.fits k
  have ON : Hid (∀ W, Calls Try.prog 12 #[.int .i64 (rP xs ys : Int)] W (MadeWh W (rP xs ys : Int) 3)) := fun W => of_any _ W (by omega)
  have OD : Hid (∀ W, Calls Try.prog 12 #[.int .i64 (rQ xs ys : Int)] W (MadeWh W (rQ xs ys : Int) 3)) := fun W => of_any _ W (by omega)
  have CC : Hid (∀ W, Calls Try.prog 14 #[.int .u64 (rP xs ys : Int), .int .u64 (rQ xs ys : Int)] W fun e w' => e = .returned (.int .u64 1) ∧ W = w') := fun W => by
    have := rcommon_any (rP xs ys) (rQ xs ys) W (by omega) (by omega)
    rw [k3] at this
    exact this
  have HX : Hid (cmpI ((rP xs ys : Int) * prodI ys) ((rQ xs ys : Int) * prodI xs) = 0) := cmpI_eq (by rw [Int.mul_comm, hx, Int.mul_comm])
  have hl1 : len1 ≤ 1024 := by omega
  have hl2 : len2 ≤ 1024 := by omega
  clear hA1 hA2 h0 hx z1 z2 p1 p2 g1 g2 g3 k3 hv hs1 hs2 t1 t2 t3
  obtain ⟨h3, h4⟩ := h2
  have u1' : IntKind.u64.wrap (rP xs ys : Int) = (rP xs ys : Int) := by rw [IntKind.wrap_u64]; omega
  have u2' : IntKind.u64.wrap (rQ xs ys : Int) = (rQ xs ys : Int) := by rw [IntKind.wrap_u64]; omega
  have c1 : decide ((0 : Int) < (rP xs ys : Int)) = true := decide_eq_true (by omega)
  have c2 : decide ((0 : Int) < (rQ xs ys : Int)) = true := decide_eq_true (by omega)
  clear k1 k2 h3 h4
  generalize (rP xs ys : Int) = p at *
  generalize (rQ xs ys : Int) = q at *
  have c3 : (p == p) = true := by simp
  have c4 : (q == q) = true := by simp
  by_cases e1 : p = 1
  · subst e1
    by_cases e2 : q = 1
    · subst e2
      clear c1 c2 c3 c4 u1' u2'
      simp only [decide_true, Bool.and_self] at Q1
      go_enter Try.func3, Try.ntmps3
      go_wp2_with (first
        | (go_at_call 15; (with_reducible refine (cmp_any _ _ _ _ _ _ _ _ _ _ _ _ _ (g12b.below b16) (g15.below b16)).mono ?_); rintro e w17 ⟨rfl, b17⟩; rw [HX.out]; have F17 := F16.trans (b17.mono F16.size); have X17 := X16.later b17 X16.lt; have Y17 := Y16.later b17 Y16.lt; have i0 := X17.c0; have i1 := X17.c1; have j0 := Y17.c0; have j1 := Y17.c1)
        | (go_at_call 10; (with_reducible refine (awake3 _).mono ?_); rintro e w16 ⟨rfl, b16⟩; have F16 := F15.trans (b16.mono F15.size); have X16 := X15.later b16 X15.lt; have Y16 := Y15.later b16 Y15.lt; have Z16 := Z15.later b16 Z15.lt; have V16 := V15.later b16 V15.lt; have z0 := Z16.c0; have z1 := Z16.c1; have o0 := V16.c0; have o1 := V16.c1)
        | (go_at_call 14; (with_reducible refine (CC.out _).mono ?_); rintro e w' ⟨rfl, rfl⟩)
        | (go_at_call 11; (with_reducible refine (times_any _ _ _ _ _ _ _ _ _ _ _ _ w14 (h13.below b14) h14 (by omega)).mono ?_); rintro e w15 ⟨m15, a15, l15, p15, d15, rfl, h15, b15, -⟩; have M15' := M14.trans (b15.mono M14.size); have M15 := M15'.alloc M15'.size (.cells #[.bool m15, .slice a15 l15 p15] 33); have F15' := F14.trans (b15.mono F14.size); have F15 := F15'.alloc F15'.size (.cells #[.bool m15, .slice a15 l15 p15] 33); have V15 := var2_new w15 (.bool m15) (.slice a15 l15 p15) 33; have g15 := h15.below ((Below.refl w15.heap.size w15).alloc (Nat.le_refl _) (.cells #[.bool m15, .slice a15 l15 p15] 33)); have X15 := X12.later M15 X12.lt; have Y15 := Y12.later M15 Y12.lt; have Z15 := Z12.later M15 Z12.lt; have g12b := g12.below M15; have v0 := X15.c0; have v1 := X15.c1)
        | (go_at_call 13; (with_reducible refine (P1.out w13 (HA1.out.lies.below F13)).mono ?_); rintro e w14 ⟨m14, a14, l14, p14, d14, rfl, h14, b14, y14⟩; have M14 := b13.trans (b14.mono b13.size); have F14 := F13.trans (b14.mono F13.size))
        | (go_at_call 12; (with_reducible refine (OD.out _).mono ?_); rintro e w13 ⟨m13, a13, l13, p13, d13, rfl, h13, b13, y13⟩; have F13 := F12.trans (b13.mono F12.size))
        | (go_at_call 11; (with_reducible refine (times_any _ _ _ _ _ _ _ _ _ _ _ _ w11 (h10.below b11) h11 (by omega)).mono ?_); rintro e w12 ⟨m12, a12, l12, p12, d12, rfl, h12, b12, -⟩; have M12' := M11.trans (b12.mono M11.size); have M12 := M12'.alloc M12'.size (.cells #[.bool m12, .slice a12 l12 p12] 33); have F12' := F11.trans (b12.mono F11.size); have F12 := F12'.alloc F12'.size (.cells #[.bool m12, .slice a12 l12 p12] 33); have Z12 := var2_new w12 (.bool m12) (.slice a12 l12 p12) 33; have g12 := h12.below ((Below.refl w12.heap.size w12).alloc (Nat.le_refl _) (.cells #[.bool m12, .slice a12 l12 p12] 33)); have X12 := X9.later M12 X9.lt; have Y12 := Y9.later M12 Y9.lt; have u0 := X12.c0; have u1 := X12.c1)
        | (go_at_call 13; (with_reducible refine (P2.out w10 (HA2.out.lies.below F10)).mono ?_); rintro e w11 ⟨m11, a11, l11, p11, d11, rfl, h11, b11, y11⟩; have M11 := b10.trans (b11.mono b10.size); have F11 := F10.trans (b11.mono F10.size))
        | (go_at_call 12; (with_reducible refine (ON.out w9).mono ?_); rintro e w10 ⟨m10, a10, l10, p10, d10, rfl, h10, b10, y10⟩; have F10 := F9.trans (b10.mono F9.size))
        | (go_at_call 9; (with_reducible refine (Q1.out _ _ _ _ w8 k7b k8).mono ?_); rintro e w9 ⟨rfl, b9⟩; have M9 := M8.trans (b9.mono M8.size); have F9 := F8.trans (b9.mono F8.size); have X9 := X6.later M9 X6.lt; have Y9 := Y6.later M9 Y6.lt; have r0 := X9.c0; have r1 := X9.c1)
        | (go_at_call 8; (with_reducible refine (I2.out w7 (HA2.out.below F7)).mono ?_); rintro e w8 ⟨x8, cp8, rfl, k8, b8, -⟩; have k7b := k7.below b8; have M8 := b7.trans (b8.mono b7.size); have F8 := F7.trans (b8.mono F7.size))
        | (go_at_call 8; (with_reducible refine (I1.out _ (HA1.out.below F6)).mono ?_); rintro e w7 ⟨x7, cp7, rfl, k7, b7, -⟩; have F7 := F6.trans (b7.mono F6.size))
        | (go_at_call 7; (with_reducible refine (R2.out _ _ _ _ w5 k4b k5).mono ?_); rintro e w6 ⟨rfl, b6⟩; have M6' := M5.trans (b6.mono M5.size); have M6 := M6'.alloc M6'.size (.cells #[.int .i64 1, .int .i64 1] 24); have F6' := F5.trans (b6.mono F5.size); have F6 := F6'.alloc F6'.size (.cells #[.int .i64 1, .int .i64 1] 24); have X6 := X3.later M6 X3.lt; have Y6 := var2_new w6 (.int .i64 1) (.int .i64 1) 24)
        | (go_at_call 8; (with_reducible refine (I1.out w4 (HA1.out.below F4)).mono ?_); rintro e w5 ⟨x5, cp5, rfl, k5, b5, -⟩; have k4b := k4.below b5; have M5 := b4.trans (b5.mono b4.size); have F5 := F4.trans (b5.mono F4.size))
        | (go_at_call 8; (with_reducible refine (I2.out _ (HA2.out.below F3)).mono ?_); rintro e w4 ⟨x4, cp4, rfl, k4, b4, -⟩; have F4 := F3.trans (b4.mono F3.size))
        | (go_at_call 7; (with_reducible refine (R1.out _ _ _ _ w2 k1b k2).mono ?_); rintro e w3 ⟨rfl, b3⟩; have F3' := F2.trans (b3.mono F2.size); have F3 := F3'.alloc F3'.size (.cells #[.int .i64 1, .int .i64 1] 24); have X3 := var2_new w3 (.int .i64 1) (.int .i64 1) 24)
        | (go_at_call 8; (with_reducible refine (I2.out w1 (HA2.out.below b1)).mono ?_); rintro e w2 ⟨x2, cp2, rfl, k2, b2, -⟩; have k1b := k1.below b2; have F2 := b1.trans (b2.mono b1.size))
        | (go_at_call 8; (with_reducible refine (I1.out w HA1.out).mono ?_); rintro e w1 ⟨x1, cp1, rfl, k1, b1, -⟩))
      go_ret
      exact ⟨rfl, F17⟩
    · have c5 : (q == 1) = false := by simp; omega
      have c6 : decide (q = 1) = false := decide_eq_false e2
      rw [c6, Bool.and_false] at Q1
      clear e2 c6 c1 c3 u1'
      go_enter Try.func3, Try.ntmps3
      go_wp2_with (first
        | (go_at_call 15; (with_reducible refine (cmp_any _ _ _ _ _ _ _ _ _ _ _ _ _ (g12b.below b16) (g15.below b16)).mono ?_); rintro e w17 ⟨rfl, b17⟩; rw [HX.out]; have F17 := F16.trans (b17.mono F16.size); have X17 := X16.later b17 X16.lt; have Y17 := Y16.later b17 Y16.lt; have i0 := X17.c0; have i1 := X17.c1; have j0 := Y17.c0; have j1 := Y17.c1)
        | (go_at_call 10; (with_reducible refine (awake3 _).mono ?_); rintro e w16 ⟨rfl, b16⟩; have F16 := F15.trans (b16.mono F15.size); have X16 := X15.later b16 X15.lt; have Y16 := Y15.later b16 Y15.lt; have Z16 := Z15.later b16 Z15.lt; have V16 := V15.later b16 V15.lt; have z0 := Z16.c0; have z1 := Z16.c1; have o0 := V16.c0; have o1 := V16.c1)
        | (go_at_call 14; (with_reducible refine (CC.out _).mono ?_); rintro e w' ⟨rfl, rfl⟩)
        | (go_at_call 11; (with_reducible refine (times_any _ _ _ _ _ _ _ _ _ _ _ _ w14 (h13.below b14) h14 (by omega)).mono ?_); rintro e w15 ⟨m15, a15, l15, p15, d15, rfl, h15, b15, -⟩; have M15' := M14.trans (b15.mono M14.size); have M15 := M15'.alloc M15'.size (.cells #[.bool m15, .slice a15 l15 p15] 33); have F15' := F14.trans (b15.mono F14.size); have F15 := F15'.alloc F15'.size (.cells #[.bool m15, .slice a15 l15 p15] 33); have V15 := var2_new w15 (.bool m15) (.slice a15 l15 p15) 33; have g15 := h15.below ((Below.refl w15.heap.size w15).alloc (Nat.le_refl _) (.cells #[.bool m15, .slice a15 l15 p15] 33)); have X15 := X12.later M15 X12.lt; have Y15 := Y12.later M15 Y12.lt; have Z15 := Z12.later M15 Z12.lt; have g12b := g12.below M15; have v0 := X15.c0; have v1 := X15.c1)
        | (go_at_call 13; (with_reducible refine (P1.out w13 (HA1.out.lies.below F13)).mono ?_); rintro e w14 ⟨m14, a14, l14, p14, d14, rfl, h14, b14, y14⟩; have M14 := b13.trans (b14.mono b13.size); have F14 := F13.trans (b14.mono F13.size))
        | (go_at_call 12; (with_reducible refine (OD.out _).mono ?_); rintro e w13 ⟨m13, a13, l13, p13, d13, rfl, h13, b13, y13⟩; have F13 := F12.trans (b13.mono F12.size))
        | (go_at_call 11; (with_reducible refine (times_any _ _ _ _ _ _ _ _ _ _ _ _ w11 (h10.below b11) h11 (by omega)).mono ?_); rintro e w12 ⟨m12, a12, l12, p12, d12, rfl, h12, b12, -⟩; have M12' := M11.trans (b12.mono M11.size); have M12 := M12'.alloc M12'.size (.cells #[.bool m12, .slice a12 l12 p12] 33); have F12' := F11.trans (b12.mono F11.size); have F12 := F12'.alloc F12'.size (.cells #[.bool m12, .slice a12 l12 p12] 33); have Z12 := var2_new w12 (.bool m12) (.slice a12 l12 p12) 33; have g12 := h12.below ((Below.refl w12.heap.size w12).alloc (Nat.le_refl _) (.cells #[.bool m12, .slice a12 l12 p12] 33)); have X12 := X9.later M12 X9.lt; have Y12 := Y9.later M12 Y9.lt; have u0 := X12.c0; have u1 := X12.c1)
        | (go_at_call 13; (with_reducible refine (P2.out w10 (HA2.out.lies.below F10)).mono ?_); rintro e w11 ⟨m11, a11, l11, p11, d11, rfl, h11, b11, y11⟩; have M11 := b10.trans (b11.mono b10.size); have F11 := F10.trans (b11.mono F10.size))
        | (go_at_call 12; (with_reducible refine (ON.out w9).mono ?_); rintro e w10 ⟨m10, a10, l10, p10, d10, rfl, h10, b10, y10⟩; have F10 := F9.trans (b10.mono F9.size))
        | (go_at_call 9; (with_reducible refine (Q1.out _ _ _ _ w8 k7b k8).mono ?_); rintro e w9 ⟨rfl, b9⟩; have M9 := M8.trans (b9.mono M8.size); have F9 := F8.trans (b9.mono F8.size); have X9 := X6.later M9 X6.lt; have Y9 := Y6.later M9 Y6.lt; have r0 := X9.c0; have r1 := X9.c1)
        | (go_at_call 8; (with_reducible refine (I2.out w7 (HA2.out.below F7)).mono ?_); rintro e w8 ⟨x8, cp8, rfl, k8, b8, -⟩; have k7b := k7.below b8; have M8 := b7.trans (b8.mono b7.size); have F8 := F7.trans (b8.mono F7.size))
        | (go_at_call 8; (with_reducible refine (I1.out _ (HA1.out.below F6)).mono ?_); rintro e w7 ⟨x7, cp7, rfl, k7, b7, -⟩; have F7 := F6.trans (b7.mono F6.size))
        | (go_at_call 7; (with_reducible refine (R2.out _ _ _ _ w5 k4b k5).mono ?_); rintro e w6 ⟨rfl, b6⟩; have M6' := M5.trans (b6.mono M5.size); have M6 := M6'.alloc M6'.size (.cells #[.int .i64 q, .int .i64 1] 24); have F6' := F5.trans (b6.mono F5.size); have F6 := F6'.alloc F6'.size (.cells #[.int .i64 q, .int .i64 1] 24); have X6 := X3.later M6 X3.lt; have Y6 := var2_new w6 (.int .i64 q) (.int .i64 1) 24)
        | (go_at_call 8; (with_reducible refine (I1.out w4 (HA1.out.below F4)).mono ?_); rintro e w5 ⟨x5, cp5, rfl, k5, b5, -⟩; have k4b := k4.below b5; have M5 := b4.trans (b5.mono b4.size); have F5 := F4.trans (b5.mono F4.size))
        | (go_at_call 8; (with_reducible refine (I2.out _ (HA2.out.below F3)).mono ?_); rintro e w4 ⟨x4, cp4, rfl, k4, b4, -⟩; have F4 := F3.trans (b4.mono F3.size))
        | (go_at_call 7; (with_reducible refine (R1.out _ _ _ _ w2 k1b k2).mono ?_); rintro e w3 ⟨rfl, b3⟩; have F3' := F2.trans (b3.mono F2.size); have F3 := F3'.alloc F3'.size (.cells #[.int .i64 1, .int .i64 q] 24); have X3 := var2_new w3 (.int .i64 1) (.int .i64 q) 24)
        | (go_at_call 8; (with_reducible refine (I2.out w1 (HA2.out.below b1)).mono ?_); rintro e w2 ⟨x2, cp2, rfl, k2, b2, -⟩; have k1b := k1.below b2; have F2 := b1.trans (b2.mono b1.size))
        | (go_at_call 8; (with_reducible refine (I1.out w HA1.out).mono ?_); rintro e w1 ⟨x1, cp1, rfl, k1, b1, -⟩))
      go_ret
      exact ⟨rfl, F17⟩
  · have c5 : (p == 1) = false := by simp; omega
    have c6 : decide (p = 1) = false := decide_eq_false e1
    rw [c6, Bool.false_and] at Q1
    clear e1 c6
    go_enter Try.func3, Try.ntmps3
    go_wp2_with (first
      | (go_at_call 15; (with_reducible refine (cmp_any _ _ _ _ _ _ _ _ _ _ _ _ _ (g12b.below b16) (g15.below b16)).mono ?_); rintro e w17 ⟨rfl, b17⟩; rw [HX.out]; have F17 := F16.trans (b17.mono F16.size); have X17 := X16.later b17 X16.lt; have Y17 := Y16.later b17 Y16.lt; have i0 := X17.c0; have i1 := X17.c1; have j0 := Y17.c0; have j1 := Y17.c1)
      | (go_at_call 10; (with_reducible refine (awake3 _).mono ?_); rintro e w16 ⟨rfl, b16⟩; have F16 := F15.trans (b16.mono F15.size); have X16 := X15.later b16 X15.lt; have Y16 := Y15.later b16 Y15.lt; have Z16 := Z15.later b16 Z15.lt; have V16 := V15.later b16 V15.lt; have z0 := Z16.c0; have z1 := Z16.c1; have o0 := V16.c0; have o1 := V16.c1)
      | (go_at_call 14; (with_reducible refine (CC.out _).mono ?_); rintro e w' ⟨rfl, rfl⟩)
      | (go_at_call 11; (with_reducible refine (times_any _ _ _ _ _ _ _ _ _ _ _ _ w14 (h13.below b14) h14 (by omega)).mono ?_); rintro e w15 ⟨m15, a15, l15, p15, d15, rfl, h15, b15, -⟩; have M15' := M14.trans (b15.mono M14.size); have M15 := M15'.alloc M15'.size (.cells #[.bool m15, .slice a15 l15 p15] 33); have F15' := F14.trans (b15.mono F14.size); have F15 := F15'.alloc F15'.size (.cells #[.bool m15, .slice a15 l15 p15] 33); have V15 := var2_new w15 (.bool m15) (.slice a15 l15 p15) 33; have g15 := h15.below ((Below.refl w15.heap.size w15).alloc (Nat.le_refl _) (.cells #[.bool m15, .slice a15 l15 p15] 33)); have X15 := X12.later M15 X12.lt; have Y15 := Y12.later M15 Y12.lt; have Z15 := Z12.later M15 Z12.lt; have g12b := g12.below M15; have v0 := X15.c0; have v1 := X15.c1)
      | (go_at_call 13; (with_reducible refine (P1.out w13 (HA1.out.lies.below F13)).mono ?_); rintro e w14 ⟨m14, a14, l14, p14, d14, rfl, h14, b14, y14⟩; have M14 := b13.trans (b14.mono b13.size); have F14 := F13.trans (b14.mono F13.size))
      | (go_at_call 12; (with_reducible refine (OD.out _).mono ?_); rintro e w13 ⟨m13, a13, l13, p13, d13, rfl, h13, b13, y13⟩; have F13 := F12.trans (b13.mono F12.size))
      | (go_at_call 11; (with_reducible refine (times_any _ _ _ _ _ _ _ _ _ _ _ _ w11 (h10.below b11) h11 (by omega)).mono ?_); rintro e w12 ⟨m12, a12, l12, p12, d12, rfl, h12, b12, -⟩; have M12' := M11.trans (b12.mono M11.size); have M12 := M12'.alloc M12'.size (.cells #[.bool m12, .slice a12 l12 p12] 33); have F12' := F11.trans (b12.mono F11.size); have F12 := F12'.alloc F12'.size (.cells #[.bool m12, .slice a12 l12 p12] 33); have Z12 := var2_new w12 (.bool m12) (.slice a12 l12 p12) 33; have g12 := h12.below ((Below.refl w12.heap.size w12).alloc (Nat.le_refl _) (.cells #[.bool m12, .slice a12 l12 p12] 33)); have X12 := X9.later M12 X9.lt; have Y12 := Y9.later M12 Y9.lt; have u0 := X12.c0; have u1 := X12.c1)
      | (go_at_call 13; (with_reducible refine (P2.out w10 (HA2.out.lies.below F10)).mono ?_); rintro e w11 ⟨m11, a11, l11, p11, d11, rfl, h11, b11, y11⟩; have M11 := b10.trans (b11.mono b10.size); have F11 := F10.trans (b11.mono F10.size))
      | (go_at_call 12; (with_reducible refine (ON.out w9).mono ?_); rintro e w10 ⟨m10, a10, l10, p10, d10, rfl, h10, b10, y10⟩; have F10 := F9.trans (b10.mono F9.size))
      | (go_at_call 9; (with_reducible refine (Q1.out _ _ _ _ w8 k7b k8).mono ?_); rintro e w9 ⟨rfl, b9⟩; have M9 := M8.trans (b9.mono M8.size); have F9 := F8.trans (b9.mono F8.size); have X9 := X6.later M9 X6.lt; have Y9 := Y6.later M9 Y6.lt; have r0 := X9.c0; have r1 := X9.c1)
      | (go_at_call 8; (with_reducible refine (I2.out w7 (HA2.out.below F7)).mono ?_); rintro e w8 ⟨x8, cp8, rfl, k8, b8, -⟩; have k7b := k7.below b8; have M8 := b7.trans (b8.mono b7.size); have F8 := F7.trans (b8.mono F7.size))
      | (go_at_call 8; (with_reducible refine (I1.out _ (HA1.out.below F6)).mono ?_); rintro e w7 ⟨x7, cp7, rfl, k7, b7, -⟩; have F7 := F6.trans (b7.mono F6.size))
      | (go_at_call 7; (with_reducible refine (R2.out _ _ _ _ w5 k4b k5).mono ?_); rintro e w6 ⟨rfl, b6⟩; have M6' := M5.trans (b6.mono M5.size); have M6 := M6'.alloc M6'.size (.cells #[.int .i64 q, .int .i64 p] 24); have F6' := F5.trans (b6.mono F5.size); have F6 := F6'.alloc F6'.size (.cells #[.int .i64 q, .int .i64 p] 24); have X6 := X3.later M6 X3.lt; have Y6 := var2_new w6 (.int .i64 q) (.int .i64 p) 24)
      | (go_at_call 8; (with_reducible refine (I1.out w4 (HA1.out.below F4)).mono ?_); rintro e w5 ⟨x5, cp5, rfl, k5, b5, -⟩; have k4b := k4.below b5; have M5 := b4.trans (b5.mono b4.size); have F5 := F4.trans (b5.mono F4.size))
      | (go_at_call 8; (with_reducible refine (I2.out _ (HA2.out.below F3)).mono ?_); rintro e w4 ⟨x4, cp4, rfl, k4, b4, -⟩; have F4 := F3.trans (b4.mono F3.size))
      | (go_at_call 7; (with_reducible refine (R1.out _ _ _ _ w2 k1b k2).mono ?_); rintro e w3 ⟨rfl, b3⟩; have F3' := F2.trans (b3.mono F2.size); have F3 := F3'.alloc F3'.size (.cells #[.int .i64 p, .int .i64 q] 24); have X3 := var2_new w3 (.int .i64 p) (.int .i64 q) 24)
      | (go_at_call 8; (with_reducible refine (I2.out w1 (HA2.out.below b1)).mono ?_); rintro e w2 ⟨x2, cp2, rfl, k2, b2, -⟩; have k1b := k1.below b2; have F2 := b1.trans (b2.mono b1.size))
      | (go_at_call 8; (with_reducible refine (I1.out w HA1.out).mono ?_); rintro e w1 ⟨x1, cp1, rfl, k1, b1, -⟩))
    go_ret
    exact ⟨rfl, F17⟩

theorem cexact_any (a1 : Option Addr) (len1 cap1 : Nat) (xs : List Int) (a2 : Option Addr) (len2 cap2 : Nat) (ys : List Int) (w : World) (hA1 : Arg w a1 len1 cap1 xs) (hA2 : Arg w a2 len2 cap2 ys) :
    Calls Try.prog 3 #[.slice a1 len1 cap1, .slice a2 len2 cap2] w fun e w' => e = .returned (.bool true) ∧ Below w.heap.size w w' := by
  by_cases h0 : cE xs ys = 0
  · cases h2 : rtB xs ys with
    | false => exact cexact_big a1 len1 cap1 xs a2 len2 cap2 ys w hA1 hA2 h0 h2
    | true => exact cexact_ok a1 len1 cap1 xs a2 len2 cap2 ys w hA1 hA2 h0 h2
  · exact cexact_arg a1 len1 cap1 xs a2 len2 cap2 ys w hA1 hA2 h0
end Go.Proofs.Ytgjeihdibcjjcab
