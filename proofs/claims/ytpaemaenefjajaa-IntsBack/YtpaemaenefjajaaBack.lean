/- The walk through the statement IntsBack. -/
import Derived.Test.YtpaemaenefjajaaAwake
namespace Go.Proofs.Ytpaemaenefjajaa
open Go.ChangeShapes Go.WideShapes Go.ChangeAt Go.RowKit

/-- What a product says: it fits, and divided it gives back; or it doesn't fit, and neither factor is 0 or 1. -/
theorem product_cases (a b : Int) (ha : -9223372036854775808 ≤ a ∧ a ≤ 9223372036854775807) (hb : -9223372036854775808 ≤ b ∧ b ≤ 9223372036854775807) :
    ∃ (p : Int) (f : Bool), fitV (a * b) = p ∧ fitB (a * b) = f ∧ (-9223372036854775808 ≤ p ∧ p ≤ 9223372036854775807) ∧
      ((f = true ∧ p = a * b ∧ (b ≠ 0 → p.tdiv b = a ∧ p.tmod b = 0)) ∨ (f = false ∧ p = 0 ∧ a ≠ 0 ∧ b ≠ 0 ∧ a ≠ 1 ∧ b ≠ 1)) := by
  by_cases h : -9223372036854775808 ≤ a * b ∧ a * b ≤ 9223372036854775807
  · refine ⟨a * b, true, fitV_yes h, fitB_yes h, h, .inl ⟨rfl, rfl, fun hb0 => ⟨Int.mul_tdiv_cancel a hb0, Int.mul_tmod_left a b⟩⟩⟩
  · refine ⟨0, false, fitV_no h, fitB_no h, by decide, .inr ⟨rfl, rfl, ?_, ?_, ?_, ?_⟩⟩
    all_goals
      rintro rfl
      apply h
      first | (rw [Int.zero_mul]; decide) | (rw [Int.mul_zero]; decide) | (rw [Int.one_mul]; omega) | (rw [Int.mul_one]; omega)

set_option maxRecDepth 100000 in
set_option maxHeartbeats 1000000 in
theorem back_no_sum (a b c : Int) (w : World) (ha : -9223372036854775808 ≤ a ∧ a ≤ 9223372036854775807) (hb : -9223372036854775808 ≤ b ∧ b ≤ 9223372036854775807) (hc : -9223372036854775808 ≤ c ∧ c ≤ 9223372036854775807) (hs : ¬ (-9223372036854775808 ≤ a + b ∧ a + b ≤ 9223372036854775807)) :
    Calls Try.prog 8 #[.int .i64 a, .int .i64 b, .int .i64 c] w fun e w' => e = .returned (.bool true) ∧ Below w.heap.size w w' := by
  obtain ⟨p, f, hpv, hpf, hp, hpc⟩ := product_cases a b ha hb
  have hqv : fitV (b * a) = p := by rw [Int.mul_comm]; exact hpv
  have hqf : fitB (b * a) = f := by rw [Int.mul_comm]; exact hpf
  have hz : (-9223372036854775808 : Int) ≤ 0 ∧ (0 : Int) ≤ 9223372036854775807 := by decide
  have e1 : fitV (a + b) = 0 := fitV_no hs
  have e2 : fitB (a + b) = false := fitB_no hs
  have e3 : fitV (b + a) = 0 := by rw [Int.add_comm]; exact e1
  have e4 : fitB (b + a) = false := by rw [Int.add_comm]; exact e2
  have e5 : fitV 0 = 0 := by decide
  have e6 : fitB 0 = true := by decide
  clear hs
  obtain ⟨l, lf, hlv, hlf⟩ : ∃ l lf, fitV (a * c) = l ∧ fitB (a * c) = lf := ⟨_, _, rfl, rfl⟩
  obtain ⟨r, rf, hrv, hrf⟩ : ∃ l lf, fitV (b * c) = l ∧ fitB (b * c) = lf := ⟨_, _, rfl, rfl⟩
  have hl : -9223372036854775808 ≤ l ∧ l ≤ 9223372036854775807 := by rw [← hlv]; exact ⟨fitV_lo _, fitV_hi _⟩
  have hr : -9223372036854775808 ≤ r ∧ r ≤ 9223372036854775807 := by rw [← hrv]; exact ⟨fitV_lo _, fitV_hi _⟩
  rcases hpc with ⟨rfl, -, hd⟩ | ⟨rfl, rfl, ha0, hb0, ha1, hb1⟩
  · by_cases hb0 : b = 0
    · have q1 : (b == 0) = true := by simpa using hb0
      have q2 : (b != 0) = false := by simpa using hb0
      clear hd hb0
      go_enter Try.func8, Try.ntmps8
      go_wp2_with (first | (go_at_call 9; refine (add_any _ _ _ ?_ ?_).mono ?_; assumption; assumption; rintro e w' ⟨rfl, rfl⟩) | (go_at_call 10; refine (sub_any _ _ _ ?_ ?_).mono ?_; assumption; assumption; rintro e w' ⟨rfl, rfl⟩) | (go_at_call 11; refine (mul_any _ _ _ ?_ ?_).mono ?_; assumption; assumption; rintro e w' ⟨rfl, rfl⟩) | (go_at_call 15; refine (awake_any _).mono ?_; rintro e w1 ⟨rfl, hbel⟩))
      go_ret
      exact ⟨rfl, hbel⟩
    · have q1 : (b == 0) = false := by simpa using hb0
      have q2 : (b != 0) = true := by simpa using hb0
      obtain ⟨hd1, hd2⟩ := hd hb0
      go_enter Try.func8, Try.ntmps8
      go_wp2_with (first | (go_at_call 9; refine (add_any _ _ _ ?_ ?_).mono ?_; assumption; assumption; rintro e w' ⟨rfl, rfl⟩) | (go_at_call 10; refine (sub_any _ _ _ ?_ ?_).mono ?_; assumption; assumption; rintro e w' ⟨rfl, rfl⟩) | (go_at_call 11; refine (mul_any _ _ _ ?_ ?_).mono ?_; assumption; assumption; rintro e w' ⟨rfl, rfl⟩) | (go_at_call 15; refine (awake_any _).mono ?_; rintro e w1 ⟨rfl, hbel⟩))
      go_ret
      exact ⟨rfl, hbel⟩
  · have q1 : (a == 0) = false := by simpa using ha0
    have q2 : (b == 0) = false := by simpa using hb0
    have q3 : (a == 1) = false := by simpa using ha1
    have q4 : (b == 1) = false := by simpa using hb1
    clear ha0 hb0 ha1 hb1
    go_enter Try.func8, Try.ntmps8
    go_wp2_with (first | (go_at_call 9; refine (add_any _ _ _ ?_ ?_).mono ?_; assumption; assumption; rintro e w' ⟨rfl, rfl⟩) | (go_at_call 10; refine (sub_any _ _ _ ?_ ?_).mono ?_; assumption; assumption; rintro e w' ⟨rfl, rfl⟩) | (go_at_call 11; refine (mul_any _ _ _ ?_ ?_).mono ?_; assumption; assumption; rintro e w' ⟨rfl, rfl⟩) | (go_at_call 15; refine (awake_any _).mono ?_; rintro e w1 ⟨rfl, hbel⟩))
    go_ret
    exact ⟨rfl, hbel⟩

set_option maxRecDepth 100000 in
set_option maxHeartbeats 1000000 in
theorem back_yes_one (a b c : Int) (w : World) (ha : -9223372036854775808 ≤ a ∧ a ≤ 9223372036854775807) (hb : -9223372036854775808 ≤ b ∧ b ≤ 9223372036854775807) (hc : -9223372036854775808 ≤ c ∧ c ≤ 9223372036854775807) (hs : -9223372036854775808 ≤ a + b ∧ a + b ≤ 9223372036854775807) (hlf : fitB (a * c) = false) :
    Calls Try.prog 8 #[.int .i64 a, .int .i64 b, .int .i64 c] w fun e w' => e = .returned (.bool true) ∧ Below w.heap.size w w' := by
  obtain ⟨p, f, hpv, hpf, hp, hpc⟩ := product_cases a b ha hb
  have hqv : fitV (b * a) = p := by rw [Int.mul_comm]; exact hpv
  have hqf : fitB (b * a) = f := by rw [Int.mul_comm]; exact hpf
  have hz : (-9223372036854775808 : Int) ≤ 0 ∧ (0 : Int) ≤ 9223372036854775807 := by decide
  have e1 : fitV (a + b) = a + b := fitV_yes hs
  have e2 : fitB (a + b) = true := fitB_yes hs
  have e3 : fitV (b + a) = a + b := by rw [Int.add_comm]; exact e1
  have e4 : fitB (b + a) = true := by rw [Int.add_comm]; exact e2
  have e5 : fitV a = a := fitV_yes ha
  have e6 : fitB a = true := fitB_yes ha
  obtain ⟨l, hlv⟩ : ∃ l, fitV (a * c) = l := ⟨_, rfl⟩
  obtain ⟨r, hrv⟩ : ∃ l, fitV (b * c) = l := ⟨_, rfl⟩
  have hl : -9223372036854775808 ≤ l ∧ l ≤ 9223372036854775807 := by rw [← hlv]; exact ⟨fitV_lo _, fitV_hi _⟩
  have hr : -9223372036854775808 ≤ r ∧ r ≤ 9223372036854775807 := by rw [← hrv]; exact ⟨fitV_lo _, fitV_hi _⟩
  rcases hpc with ⟨rfl, -, hd⟩ | ⟨rfl, rfl, ha0, hb0, ha1, hb1⟩
  · by_cases hb0 : b = 0
    · have q1 : (b == 0) = true := by simpa using hb0
      have q2 : (b != 0) = false := by simpa using hb0
      clear hd hb0
      go_enter Try.func8, Try.ntmps8
      go_wp2_with (first | (go_at_call 9; refine (add_any _ _ _ ?_ ?_).mono ?_; assumption; assumption; rintro e w' ⟨rfl, rfl⟩) | (go_at_call 10; refine (sub_any _ _ _ ?_ ?_).mono ?_; assumption; assumption; rintro e w' ⟨rfl, rfl⟩) | (go_at_call 11; refine (mul_any _ _ _ ?_ ?_).mono ?_; assumption; assumption; rintro e w' ⟨rfl, rfl⟩) | (go_at_call 15; refine (awake_any _).mono ?_; rintro e w1 ⟨rfl, hbel⟩))
      go_ret
      exact ⟨rfl, hbel⟩
    · have q1 : (b == 0) = false := by simpa using hb0
      have q2 : (b != 0) = true := by simpa using hb0
      obtain ⟨hd1, hd2⟩ := hd hb0
      go_enter Try.func8, Try.ntmps8
      go_wp2_with (first | (go_at_call 9; refine (add_any _ _ _ ?_ ?_).mono ?_; assumption; assumption; rintro e w' ⟨rfl, rfl⟩) | (go_at_call 10; refine (sub_any _ _ _ ?_ ?_).mono ?_; assumption; assumption; rintro e w' ⟨rfl, rfl⟩) | (go_at_call 11; refine (mul_any _ _ _ ?_ ?_).mono ?_; assumption; assumption; rintro e w' ⟨rfl, rfl⟩) | (go_at_call 15; refine (awake_any _).mono ?_; rintro e w1 ⟨rfl, hbel⟩))
      go_ret
      exact ⟨rfl, hbel⟩
  · have q1 : (a == 0) = false := by simpa using ha0
    have q2 : (b == 0) = false := by simpa using hb0
    have q3 : (a == 1) = false := by simpa using ha1
    have q4 : (b == 1) = false := by simpa using hb1
    clear ha0 hb0 ha1 hb1
    go_enter Try.func8, Try.ntmps8
    go_wp2_with (first | (go_at_call 9; refine (add_any _ _ _ ?_ ?_).mono ?_; assumption; assumption; rintro e w' ⟨rfl, rfl⟩) | (go_at_call 10; refine (sub_any _ _ _ ?_ ?_).mono ?_; assumption; assumption; rintro e w' ⟨rfl, rfl⟩) | (go_at_call 11; refine (mul_any _ _ _ ?_ ?_).mono ?_; assumption; assumption; rintro e w' ⟨rfl, rfl⟩) | (go_at_call 15; refine (awake_any _).mono ?_; rintro e w1 ⟨rfl, hbel⟩))
    go_ret
    exact ⟨rfl, hbel⟩

set_option maxRecDepth 100000 in
set_option maxHeartbeats 1000000 in
theorem back_yes_two (a b c : Int) (w : World) (ha : -9223372036854775808 ≤ a ∧ a ≤ 9223372036854775807) (hb : -9223372036854775808 ≤ b ∧ b ≤ 9223372036854775807) (hc : -9223372036854775808 ≤ c ∧ c ≤ 9223372036854775807) (hs : -9223372036854775808 ≤ a + b ∧ a + b ≤ 9223372036854775807) (hlf : fitB (a * c) = true) (hrf : fitB (b * c) = false) :
    Calls Try.prog 8 #[.int .i64 a, .int .i64 b, .int .i64 c] w fun e w' => e = .returned (.bool true) ∧ Below w.heap.size w w' := by
  obtain ⟨p, f, hpv, hpf, hp, hpc⟩ := product_cases a b ha hb
  have hqv : fitV (b * a) = p := by rw [Int.mul_comm]; exact hpv
  have hqf : fitB (b * a) = f := by rw [Int.mul_comm]; exact hpf
  have hz : (-9223372036854775808 : Int) ≤ 0 ∧ (0 : Int) ≤ 9223372036854775807 := by decide
  have e1 : fitV (a + b) = a + b := fitV_yes hs
  have e2 : fitB (a + b) = true := fitB_yes hs
  have e3 : fitV (b + a) = a + b := by rw [Int.add_comm]; exact e1
  have e4 : fitB (b + a) = true := by rw [Int.add_comm]; exact e2
  have e5 : fitV a = a := fitV_yes ha
  have e6 : fitB a = true := fitB_yes ha
  obtain ⟨l, hlv⟩ : ∃ l, fitV (a * c) = l := ⟨_, rfl⟩
  obtain ⟨r, hrv⟩ : ∃ l, fitV (b * c) = l := ⟨_, rfl⟩
  have hl : -9223372036854775808 ≤ l ∧ l ≤ 9223372036854775807 := by rw [← hlv]; exact ⟨fitV_lo _, fitV_hi _⟩
  have hr : -9223372036854775808 ≤ r ∧ r ≤ 9223372036854775807 := by rw [← hrv]; exact ⟨fitV_lo _, fitV_hi _⟩
  rcases hpc with ⟨rfl, -, hd⟩ | ⟨rfl, rfl, ha0, hb0, ha1, hb1⟩
  · by_cases hb0 : b = 0
    · have q1 : (b == 0) = true := by simpa using hb0
      have q2 : (b != 0) = false := by simpa using hb0
      clear hd hb0
      go_enter Try.func8, Try.ntmps8
      go_wp2_with (first | (go_at_call 9; refine (add_any _ _ _ ?_ ?_).mono ?_; assumption; assumption; rintro e w' ⟨rfl, rfl⟩) | (go_at_call 10; refine (sub_any _ _ _ ?_ ?_).mono ?_; assumption; assumption; rintro e w' ⟨rfl, rfl⟩) | (go_at_call 11; refine (mul_any _ _ _ ?_ ?_).mono ?_; assumption; assumption; rintro e w' ⟨rfl, rfl⟩) | (go_at_call 15; refine (awake_any _).mono ?_; rintro e w1 ⟨rfl, hbel⟩))
      go_ret
      exact ⟨rfl, hbel⟩
    · have q1 : (b == 0) = false := by simpa using hb0
      have q2 : (b != 0) = true := by simpa using hb0
      obtain ⟨hd1, hd2⟩ := hd hb0
      go_enter Try.func8, Try.ntmps8
      go_wp2_with (first | (go_at_call 9; refine (add_any _ _ _ ?_ ?_).mono ?_; assumption; assumption; rintro e w' ⟨rfl, rfl⟩) | (go_at_call 10; refine (sub_any _ _ _ ?_ ?_).mono ?_; assumption; assumption; rintro e w' ⟨rfl, rfl⟩) | (go_at_call 11; refine (mul_any _ _ _ ?_ ?_).mono ?_; assumption; assumption; rintro e w' ⟨rfl, rfl⟩) | (go_at_call 15; refine (awake_any _).mono ?_; rintro e w1 ⟨rfl, hbel⟩))
      go_ret
      exact ⟨rfl, hbel⟩
  · have q1 : (a == 0) = false := by simpa using ha0
    have q2 : (b == 0) = false := by simpa using hb0
    have q3 : (a == 1) = false := by simpa using ha1
    have q4 : (b == 1) = false := by simpa using hb1
    clear ha0 hb0 ha1 hb1
    go_enter Try.func8, Try.ntmps8
    go_wp2_with (first | (go_at_call 9; refine (add_any _ _ _ ?_ ?_).mono ?_; assumption; assumption; rintro e w' ⟨rfl, rfl⟩) | (go_at_call 10; refine (sub_any _ _ _ ?_ ?_).mono ?_; assumption; assumption; rintro e w' ⟨rfl, rfl⟩) | (go_at_call 11; refine (mul_any _ _ _ ?_ ?_).mono ?_; assumption; assumption; rintro e w' ⟨rfl, rfl⟩) | (go_at_call 15; refine (awake_any _).mono ?_; rintro e w1 ⟨rfl, hbel⟩))
    go_ret
    exact ⟨rfl, hbel⟩

set_option maxRecDepth 100000 in
set_option maxHeartbeats 1000000 in
theorem back_yes_three (a b c : Int) (w : World) (ha : -9223372036854775808 ≤ a ∧ a ≤ 9223372036854775807) (hb : -9223372036854775808 ≤ b ∧ b ≤ 9223372036854775807) (hc : -9223372036854775808 ≤ c ∧ c ≤ 9223372036854775807) (hs : -9223372036854775808 ≤ a + b ∧ a + b ≤ 9223372036854775807) (hlf : fitB (a * c) = true) (hrf : fitB (b * c) = true) (htf : fitB ((a + b) * c) = false) :
    Calls Try.prog 8 #[.int .i64 a, .int .i64 b, .int .i64 c] w fun e w' => e = .returned (.bool true) ∧ Below w.heap.size w w' := by
  obtain ⟨p, f, hpv, hpf, hp, hpc⟩ := product_cases a b ha hb
  have hqv : fitV (b * a) = p := by rw [Int.mul_comm]; exact hpv
  have hqf : fitB (b * a) = f := by rw [Int.mul_comm]; exact hpf
  have hz : (-9223372036854775808 : Int) ≤ 0 ∧ (0 : Int) ≤ 9223372036854775807 := by decide
  have e1 : fitV (a + b) = a + b := fitV_yes hs
  have e2 : fitB (a + b) = true := fitB_yes hs
  have e3 : fitV (b + a) = a + b := by rw [Int.add_comm]; exact e1
  have e4 : fitB (b + a) = true := by rw [Int.add_comm]; exact e2
  have e5 : fitV a = a := fitV_yes ha
  have e6 : fitB a = true := fitB_yes ha
  obtain ⟨l, hlv⟩ : ∃ l, fitV (a * c) = l := ⟨_, rfl⟩
  obtain ⟨r, hrv⟩ : ∃ l, fitV (b * c) = l := ⟨_, rfl⟩
  have hl : -9223372036854775808 ≤ l ∧ l ≤ 9223372036854775807 := by rw [← hlv]; exact ⟨fitV_lo _, fitV_hi _⟩
  have hr : -9223372036854775808 ≤ r ∧ r ≤ 9223372036854775807 := by rw [← hrv]; exact ⟨fitV_lo _, fitV_hi _⟩
  rcases hpc with ⟨rfl, -, hd⟩ | ⟨rfl, rfl, ha0, hb0, ha1, hb1⟩
  · by_cases hb0 : b = 0
    · have q1 : (b == 0) = true := by simpa using hb0
      have q2 : (b != 0) = false := by simpa using hb0
      clear hd hb0
      go_enter Try.func8, Try.ntmps8
      go_wp2_with (first | (go_at_call 9; refine (add_any _ _ _ ?_ ?_).mono ?_; assumption; assumption; rintro e w' ⟨rfl, rfl⟩) | (go_at_call 10; refine (sub_any _ _ _ ?_ ?_).mono ?_; assumption; assumption; rintro e w' ⟨rfl, rfl⟩) | (go_at_call 11; refine (mul_any _ _ _ ?_ ?_).mono ?_; assumption; assumption; rintro e w' ⟨rfl, rfl⟩) | (go_at_call 15; refine (awake_any _).mono ?_; rintro e w1 ⟨rfl, hbel⟩))
      go_ret
      exact ⟨rfl, hbel⟩
    · have q1 : (b == 0) = false := by simpa using hb0
      have q2 : (b != 0) = true := by simpa using hb0
      obtain ⟨hd1, hd2⟩ := hd hb0
      go_enter Try.func8, Try.ntmps8
      go_wp2_with (first | (go_at_call 9; refine (add_any _ _ _ ?_ ?_).mono ?_; assumption; assumption; rintro e w' ⟨rfl, rfl⟩) | (go_at_call 10; refine (sub_any _ _ _ ?_ ?_).mono ?_; assumption; assumption; rintro e w' ⟨rfl, rfl⟩) | (go_at_call 11; refine (mul_any _ _ _ ?_ ?_).mono ?_; assumption; assumption; rintro e w' ⟨rfl, rfl⟩) | (go_at_call 15; refine (awake_any _).mono ?_; rintro e w1 ⟨rfl, hbel⟩))
      go_ret
      exact ⟨rfl, hbel⟩
  · have q1 : (a == 0) = false := by simpa using ha0
    have q2 : (b == 0) = false := by simpa using hb0
    have q3 : (a == 1) = false := by simpa using ha1
    have q4 : (b == 1) = false := by simpa using hb1
    clear ha0 hb0 ha1 hb1
    go_enter Try.func8, Try.ntmps8
    go_wp2_with (first | (go_at_call 9; refine (add_any _ _ _ ?_ ?_).mono ?_; assumption; assumption; rintro e w' ⟨rfl, rfl⟩) | (go_at_call 10; refine (sub_any _ _ _ ?_ ?_).mono ?_; assumption; assumption; rintro e w' ⟨rfl, rfl⟩) | (go_at_call 11; refine (mul_any _ _ _ ?_ ?_).mono ?_; assumption; assumption; rintro e w' ⟨rfl, rfl⟩) | (go_at_call 15; refine (awake_any _).mono ?_; rintro e w1 ⟨rfl, hbel⟩))
    go_ret
    exact ⟨rfl, hbel⟩

set_option maxRecDepth 100000 in
set_option maxHeartbeats 1000000 in
theorem back_yes_all (a b c : Int) (w : World) (ha : -9223372036854775808 ≤ a ∧ a ≤ 9223372036854775807) (hb : -9223372036854775808 ≤ b ∧ b ≤ 9223372036854775807) (hc : -9223372036854775808 ≤ c ∧ c ≤ 9223372036854775807) (hs : -9223372036854775808 ≤ a + b ∧ a + b ≤ 9223372036854775807) (hlf : fitB (a * c) = true) (hrf : fitB (b * c) = true) (htf : fitB ((a + b) * c) = true) :
    Calls Try.prog 8 #[.int .i64 a, .int .i64 b, .int .i64 c] w fun e w' => e = .returned (.bool true) ∧ Below w.heap.size w w' := by
  obtain ⟨p, f, hpv, hpf, hp, hpc⟩ := product_cases a b ha hb
  have hqv : fitV (b * a) = p := by rw [Int.mul_comm]; exact hpv
  have hqf : fitB (b * a) = f := by rw [Int.mul_comm]; exact hpf
  have hz : (-9223372036854775808 : Int) ≤ 0 ∧ (0 : Int) ≤ 9223372036854775807 := by decide
  have e1 : fitV (a + b) = a + b := fitV_yes hs
  have e2 : fitB (a + b) = true := fitB_yes hs
  have e3 : fitV (b + a) = a + b := by rw [Int.add_comm]; exact e1
  have e4 : fitB (b + a) = true := by rw [Int.add_comm]; exact e2
  have e5 : fitV a = a := fitV_yes ha
  have e6 : fitB a = true := fitB_yes ha
  obtain ⟨l, hlv⟩ : ∃ l, fitV (a * c) = l := ⟨_, rfl⟩
  obtain ⟨r, hrv⟩ : ∃ l, fitV (b * c) = l := ⟨_, rfl⟩
  have hl : -9223372036854775808 ≤ l ∧ l ≤ 9223372036854775807 := by rw [← hlv]; exact ⟨fitV_lo _, fitV_hi _⟩
  have hr : -9223372036854775808 ≤ r ∧ r ≤ 9223372036854775807 := by rw [← hrv]; exact ⟨fitV_lo _, fitV_hi _⟩
  obtain ⟨t, htv⟩ : ∃ l, fitV ((a + b) * c) = l := ⟨_, rfl⟩
  have hlr : fitV (l + r) = t ∧ fitB (l + r) = true := by
    have k1 := fitV_yes (fitB_true.1 hlf)
    have k2 := fitV_yes (fitB_true.1 hrf)
    have k : l + r = (a + b) * c := by rw [← hlv, ← hrv, k1, k2, Int.add_mul]
    rw [k]
    exact ⟨htv, htf⟩
  obtain ⟨g1, g2⟩ := hlr
  rcases hpc with ⟨rfl, -, hd⟩ | ⟨rfl, rfl, ha0, hb0, ha1, hb1⟩
  · by_cases hb0 : b = 0
    · have q1 : (b == 0) = true := by simpa using hb0
      have q2 : (b != 0) = false := by simpa using hb0
      clear hd hb0
      go_enter Try.func8, Try.ntmps8
      go_wp2_with (first | (go_at_call 9; refine (add_any _ _ _ ?_ ?_).mono ?_; assumption; assumption; rintro e w' ⟨rfl, rfl⟩) | (go_at_call 10; refine (sub_any _ _ _ ?_ ?_).mono ?_; assumption; assumption; rintro e w' ⟨rfl, rfl⟩) | (go_at_call 11; refine (mul_any _ _ _ ?_ ?_).mono ?_; assumption; assumption; rintro e w' ⟨rfl, rfl⟩) | (go_at_call 15; refine (awake_any _).mono ?_; rintro e w1 ⟨rfl, hbel⟩))
      go_ret
      exact ⟨rfl, hbel⟩
    · have q1 : (b == 0) = false := by simpa using hb0
      have q2 : (b != 0) = true := by simpa using hb0
      obtain ⟨hd1, hd2⟩ := hd hb0
      go_enter Try.func8, Try.ntmps8
      go_wp2_with (first | (go_at_call 9; refine (add_any _ _ _ ?_ ?_).mono ?_; assumption; assumption; rintro e w' ⟨rfl, rfl⟩) | (go_at_call 10; refine (sub_any _ _ _ ?_ ?_).mono ?_; assumption; assumption; rintro e w' ⟨rfl, rfl⟩) | (go_at_call 11; refine (mul_any _ _ _ ?_ ?_).mono ?_; assumption; assumption; rintro e w' ⟨rfl, rfl⟩) | (go_at_call 15; refine (awake_any _).mono ?_; rintro e w1 ⟨rfl, hbel⟩))
      go_ret
      exact ⟨rfl, hbel⟩
  · have q1 : (a == 0) = false := by simpa using ha0
    have q2 : (b == 0) = false := by simpa using hb0
    have q3 : (a == 1) = false := by simpa using ha1
    have q4 : (b == 1) = false := by simpa using hb1
    clear ha0 hb0 ha1 hb1
    go_enter Try.func8, Try.ntmps8
    go_wp2_with (first | (go_at_call 9; refine (add_any _ _ _ ?_ ?_).mono ?_; assumption; assumption; rintro e w' ⟨rfl, rfl⟩) | (go_at_call 10; refine (sub_any _ _ _ ?_ ?_).mono ?_; assumption; assumption; rintro e w' ⟨rfl, rfl⟩) | (go_at_call 11; refine (mul_any _ _ _ ?_ ?_).mono ?_; assumption; assumption; rintro e w' ⟨rfl, rfl⟩) | (go_at_call 15; refine (awake_any _).mono ?_; rintro e w1 ⟨rfl, hbel⟩))
    go_ret
    exact ⟨rfl, hbel⟩

theorem back_any (a b c : Int) (w : World) (ha : -9223372036854775808 ≤ a ∧ a ≤ 9223372036854775807) (hb : -9223372036854775808 ≤ b ∧ b ≤ 9223372036854775807) (hc : -9223372036854775808 ≤ c ∧ c ≤ 9223372036854775807) :
    Calls Try.prog 8 #[.int .i64 a, .int .i64 b, .int .i64 c] w fun e w' => e = .returned (.bool true) ∧ Below w.heap.size w w' := by
  by_cases hs : -9223372036854775808 ≤ a + b ∧ a + b ≤ 9223372036854775807
  · cases h1 : fitB (a * c)
    · exact back_yes_one a b c w ha hb hc hs h1
    · cases h2 : fitB (b * c)
      · exact back_yes_two a b c w ha hb hc hs h1 h2
      · cases h3 : fitB ((a + b) * c)
        · exact back_yes_three a b c w ha hb hc hs h1 h2 h3
        · exact back_yes_all a b c w ha hb hc hs h1 h2 h3
  · exact back_no_sum a b c w ha hb hc hs
end Go.Proofs.Ytpaemaenefjajaa
