/- What the document's answer (pianolaref01) gives for sizes and greatest common divisors: the same plain functions. -/
import Derived.Test.YtpaemaenefjajaaOwn
import Derived.Laws.Bits64
namespace Go.Proofs.Ytpaemaenefjajaa
open Go.ChangeShapes Go.WideShapes Go.ChangeAt Go.RowKit

theorem ret_u {a b : Int} (h : a = b) : Ending.returned (.int .u64 a) = .returned (.int .u64 b) := by rw [h]

theorem rsize_any (a : Int) (w : World) (ha : -9223372036854775808 ≤ a ∧ a ≤ 9223372036854775807) :
    Calls Try.prog 35 #[.int .i64 a] w fun e w' => e = .returned (.int .u64 (a.natAbs : Nat)) ∧ w = w' := by
  obtain ⟨h1, h2⟩ := ha
  by_cases h : a < 0
  · go_enter Try.func35, Try.ntmps35
    go_wp2
    go_ret
    exact ⟨ret_u (by rw [IntKind.wrap_u64, IntKind.wrap_u64]; omega), rfl⟩
  · go_enter Try.func35, Try.ntmps35
    go_wp2
    go_ret
    exact ⟨ret_u (by omega), rfl⟩

theorem rcommon_any (a b : Nat) (w : World) (ha : a ≤ 18446744073709551615) (hb : b ≤ 18446744073709551615) :
    Calls Try.prog 34 #[.int .u64 a, .int .u64 b] w fun e w' => e = .returned (.int .u64 (Nat.gcd a b : Nat)) ∧ w = w' := by
  go_enter Try.func34, Try.ntmps34
  go_wp2
  go_loop [0, 1, 5] (fun p q _ => ∃ x y : Nat, p = .int .u64 x ∧ q = .int .u64 y ∧ x ≤ 18446744073709551615 ∧ y ≤ 18446744073709551615 ∧ Nat.gcd x y = Nat.gcd a b) (fun _ q _ => (intOf q).toNat)
  case atStart => exact ⟨a, b, rfl, rfl, ha, hb, rfl⟩
  case round =>
    obtain ⟨x, y, rfl, rfl, hx, hy, hg⟩ := hrel
    have HG : Hid (Nat.gcd x y = Nat.gcd a b) := hg
    clear hg
    by_cases h0 : y = 0
    · subst h0
      go_wp2
      go_ret
      have := HG.out
      rw [Nat.gcd_zero_right] at this
      exact ⟨by rw [← this]; rfl, rfl⟩
    · have q1 : ((y : Int) == 0) = false := by simp; omega
      have q2 : ¬ (y : Int) = 0 := by omega
      have hlt : x % y < y := Nat.mod_lt _ (by omega)
      go_wp2
      go_round
      case rel => exact ⟨y, x % y, rfl, rfl, hy, by omega, by rw [← HG.out, Nat.gcd_comm y, ← Nat.gcd_rec, Nat.gcd_comm]⟩
      case measure => simp only [intOf]; omega

theorem gcdO_le (d : Nat) (zs : List Int) (hd : d ≤ 18446744073709551615) (hz : ∀ x ∈ zs, -9223372036854775808 ≤ x ∧ x ≤ 9223372036854775807) : gcdO d zs ≤ 18446744073709551615 := by
  induction zs generalizing d with
  | nil => exact hd
  | cons y ys ih =>
    refine ih _ ?_ (fun x hx => hz x (by simp [hx]))
    by_cases h : d = 0
    · subst h; rw [Nat.gcd_zero_left]; have := hz y (by simp); omega
    · have := Nat.gcd_le_left y.natAbs (show 0 < d by omega); omega

set_option maxHeartbeats 400000 in
theorem rgcd_any (a : Option Addr) (zs : List Int) (len cap : Nat) (w : World) (hl : zs.length = len) (hm : len ≤ 4611686018427387904) (hz : InR zs) (h : At w a zs) :
    Calls Try.prog 21 #[.slice a len cap] w fun e w' => e = .returned (.tuple #[.int .i64 (gcdV zs), .bool (gcdB zs)]) ∧ w = w' := by
  rcases h with h | ⟨b, off, rfl, hc⟩
  · subst h
    subst hl
    have k1 : gcdV [] = 0 := by decide +kernel
    have k2 : gcdB [] = true := by decide +kernel
    rw [k1, k2]
    go_enter Try.func21, Try.ntmps21
    go_wp2
    go_loop [4, 5] (fun s i => s = .int .u64 0 ∧ i = .int .i64 0) (fun _ _ => 0)
    case atStart => exact ⟨rfl, rfl⟩
    case round =>
      obtain ⟨rfl, rfl⟩ := hrel
      go_wp2
      go_ret2
      exact ⟨rfl, rfl⟩
  · go_enter Try.func21, Try.ntmps21
    go_wp2
    go_loop [4, 5] (fun s i => ∃ (k d : Nat), k ≤ len ∧ i = .int .i64 k ∧ s = .int .u64 d ∧ d ≤ 18446744073709551615 ∧ gcdO d (zs.drop k) = gcdO 0 zs) (fun _ i => len - (intOf i).toNat)
    case atStart => exact ⟨0, 0, Nat.zero_le _, rfl, rfl, by decide, rfl⟩
    case round =>
      obtain ⟨k, d, hk, rfl, rfl, hd, hs⟩ := hrel
      have HS : Hid (gcdO d (zs.drop k) = gcdO 0 zs) := hs
      clear hs
      by_cases hlt : k < len
      · have hck := hc k (by omega)
        have hzk := hz k
        have HD : Hid (zs.drop k = nth zs k :: zs.drop (k + 1)) := drop_nth zs k (by omega)
        have hgl : Nat.gcd d (nth zs k).natAbs ≤ 18446744073709551615 := gcdO_le d [nth zs k] hd (fun x hx => by simp at hx; subst hx; exact hzk)
        have hna : (nth zs k).natAbs ≤ 18446744073709551615 := by omega
        go_wp2_with (first | (go_at_call 35; refine (rsize_any _ _ hzk).mono ?_; rintro e w' ⟨rfl, rfl⟩) | (go_at_call 34; refine (rcommon_any _ _ _ hd hna).mono ?_; rintro e w' ⟨rfl, rfl⟩))
        go_round
        case rel => exact ⟨k + 1, _, by omega, by go_num, rfl, hgl, by rw [← HS.out, HD.out]; rfl⟩
        case measure => simp [intOf]; omega
      · have HD : Hid (zs.drop k = []) := drop_end zs k (by omega)
        have e : gcdO 0 zs = d := by rw [← HS.out, HD.out]; rfl
        have HV : Hid (gcdV zs = fitV d ∧ gcdB zs = fitB d) := ⟨by rw [gcdV, e], by rw [gcdB, e]⟩
        clear e HS HD
        by_cases hf : d ≤ 9223372036854775807
        · have hf' : ¬ (9223372036854775807 : Int) < d := by omega
          go_wp2
          go_ret2
          exact ⟨ret_two (by rw [HV.out.1, fitV_yes (by omega)]) (by rw [HV.out.2, fitB_yes (by omega)]), rfl⟩
        · have hf' : (9223372036854775807 : Int) < d := by omega
          go_wp2
          go_ret2
          exact ⟨ret_two (by rw [HV.out.1, fitV_no (by omega)]) (by rw [HV.out.2, fitB_no (by omega)]), rfl⟩
end Go.Proofs.Ytpaemaenefjajaa
