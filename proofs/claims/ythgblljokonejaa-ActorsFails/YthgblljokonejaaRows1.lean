/- What the program's own Sum, Gcd, hasZero, Lcm and Dot answer over rows of numbers in memory. -/
import Derived.Test.YthgblljokonejaaBase
namespace Go.Proofs.Ythgblljokonejaa
open Go.ChangeShapes Go.WideShapes Go.ChangeAt Go.RowKit

/-- A row of numbers lies in memory where a slice says. -/
def At (w : World) (a : Option Addr) (zs : List Int) : Prop :=
  zs = [] ∨ ∃ b off, a = some ⟨b, off, none⟩ ∧ ∀ k, k < zs.length → w.cell? ⟨b, off + k, none⟩ = some (.int .i64 (nth zs k))

theorem lcm_facts {x s : Nat} (hx : 1 ≤ x) (hs : 1 ≤ s) (hx2 : x ≤ 9223372036854775807) :
    ∃ g q l : Nat, Hid (Nat.gcd s x = g) ∧ Hid (Nat.lcm x s = l) ∧ 1 ≤ g ∧ g ≤ 9223372036854775807 ∧ ((x : Int) / (g : Int) = (q : Int)) ∧ 1 ≤ q ∧ q ≤ 9223372036854775807 ∧ 1 ≤ l ∧ (q : Int) * (s : Int) = (l : Int) := by
  obtain ⟨h1, h2, h3, h4⟩ := lcm_by hx hs
  have h5 : Nat.gcd s x ≤ x := Nat.le_of_dvd (by omega) (Nat.gcd_dvd_right s x)
  have h6 : x / Nat.gcd s x ≤ x := Nat.div_le_self _ _
  exact ⟨_, x / Nat.gcd s x, _, rfl, rfl, h1, by omega, by omega, h3, by omega, h4, by rw [← h2]; simp⟩

set_option maxHeartbeats 400000 in
theorem sum_any (a : Option Addr) (zs : List Int) (len cap : Nat) (w : World) (hl : zs.length = len) (hm : len ≤ 4611686018427387904) (hz : InR zs) (h : At w a zs) :
    Calls Try.prog 146 #[.slice a len cap] w fun e w' => e = .returned (.tuple #[.int .i64 (sumV zs), .bool (sumB zs)]) ∧ w = w' := by
  rcases h with h | ⟨b, off, rfl, hc⟩
  · subst h
    subst hl
    go_enter Try.func146, Try.ntmps146
    go_wp2
    go_loop [4, 5, 10] (fun s _ i => s = .int .i64 0 ∧ i = .int .i64 0) (fun _ _ _ => 0)
    case atStart => exact ⟨rfl, rfl⟩
    case round =>
      obtain ⟨rfl, rfl⟩ := hrel
      go_wp2
      go_ret2
      exact ⟨rfl, rfl⟩
  · go_enter Try.func146, Try.ntmps146
    go_wp2
    go_loop [4, 5, 10] (fun s _ i => ∃ (k : Nat) (x : Int), k ≤ len ∧ i = .int .i64 k ∧ s = .int .i64 x ∧ (-9223372036854775808 ≤ x ∧ x ≤ 9223372036854775807) ∧ sumO x (zs.drop k) = sumO 0 zs) (fun _ _ i => len - (intOf i).toNat)
    case atStart => exact ⟨0, 0, Nat.zero_le _, rfl, rfl, by decide, rfl⟩
    case round =>
      obtain ⟨k, x, hk, rfl, rfl, hx, hs⟩ := hrel
      have HS : Hid (sumO x (zs.drop k) = sumO 0 zs) := hs
      clear hs
      by_cases hlt : k < len
      · have hck := hc k (by omega)
        have hzk := hz k
        have HD : Hid (zs.drop k = nth zs k :: zs.drop (k + 1)) := drop_nth zs k (by omega)
        by_cases hf : -9223372036854775808 ≤ x + nth zs k ∧ x + nth zs k ≤ 9223372036854775807
        · have hfb := fitB_yes hf
          have hfv := fitV_yes hf
          go_wp2_with (go_at_call 138; refine (add_any _ _ _ hx hzk).mono ?_; rintro e w' ⟨rfl, rfl⟩)
          go_round
          case rel => exact ⟨k + 1, x + nth zs k, by omega, by go_num, rfl, hf, by rw [← HS.out, HD.out, sumO, hfb]; rfl⟩
          case measure => simp [intOf]; omega
        · have hfb := fitB_no hf
          have hfv := fitV_no hf
          go_wp2_with (go_at_call 138; refine (add_any _ _ _ hx hzk).mono ?_; rintro e w' ⟨rfl, rfl⟩)
          go_ret2
          have e : sumO 0 zs = none := by rw [← HS.out, HD.out, sumO, hfb]; rfl
          exact ⟨ret_two (by rw [sumV, e]; rfl) (by rw [sumB, e]; rfl), rfl⟩
      · have HD : Hid (zs.drop k = []) := drop_end zs k (by omega)
        go_wp2
        go_ret2
        have e : sumO 0 zs = some x := by rw [← HS.out, HD.out]; rfl
        exact ⟨ret_two (by rw [sumV, e]; rfl) (by rw [sumB, e]; rfl), rfl⟩

theorem dotO_nil_left (s : Int) (ys : List Int) : dotO s [] ys = some s := by cases ys <;> rfl

set_option maxHeartbeats 400000 in
theorem dot_any (a1 a2 : Option Addr) (xs ys : List Int) (len1 cap1 len2 cap2 : Nat) (w : World) (hl1 : xs.length = len1) (hl2 : ys.length = len2) (hm1 : len1 ≤ 4611686018427387904) (hm2 : len2 ≤ 4611686018427387904) (hx : InR xs) (hy : InR ys) (h1 : At w a1 xs) (h2 : At w a2 ys) :
    Calls Try.prog 135 #[.slice a1 len1 cap1, .slice a2 len2 cap2] w fun e w' => e = .returned (.tuple #[.int .i64 (dotV xs ys), .bool (dotB xs ys)]) ∧ w = w' := by
  by_cases hne : len1 = len2
  · subst hne
    have HV : Hid (dotV xs ys = (dotO 0 xs ys).getD 0) := by show dotV xs ys = _; unfold dotV; rw [if_pos (by omega)]
    have HB : Hid (dotB xs ys = (dotO 0 xs ys).isSome) := by show dotB xs ys = _; unfold dotB; rw [decide_eq_true (by omega)]; rfl
    rcases h1 with h | ⟨b1, off1, rfl, hc1⟩
    · subst h
      have h0 : len1 = 0 := by simpa using hl1.symm
      subst h0
      clear hl1 hl2
      go_enter Try.func135, Try.ntmps135
      go_wp2
      go_loop [6, 10, 18] (fun s _ i => s = .int .i64 0 ∧ i = .int .i64 0) (fun _ _ _ => 0)
      case atStart => exact ⟨rfl, rfl⟩
      case round =>
        obtain ⟨rfl, rfl⟩ := hrel
        go_wp2
        go_ret2
        exact ⟨ret_two (by rw [HV.out, dotO_nil_left]; rfl) (by rw [HB.out, dotO_nil_left]; rfl), rfl⟩
    · rcases h2 with h | ⟨b2, off2, rfl, hc2⟩
      · subst h
        have h0 : len1 = 0 := by simpa using hl2.symm
        subst h0
        have h3 : xs = [] := List.eq_nil_of_length_eq_zero hl1
        subst h3
        clear hl1 hl2 hc1
        go_enter Try.func135, Try.ntmps135
        go_wp2
        go_loop [6, 10, 18] (fun s _ i => s = .int .i64 0 ∧ i = .int .i64 0) (fun _ _ _ => 0)
        case atStart => exact ⟨rfl, rfl⟩
        case round =>
          obtain ⟨rfl, rfl⟩ := hrel
          go_wp2
          go_ret2
          exact ⟨ret_two (by rw [HV.out]; rfl) (by rw [HB.out]; rfl), rfl⟩
      · have hee : ((len1 : Int) == (len1 : Int)) = true := by simp
        go_enter Try.func135, Try.ntmps135
        go_wp2
        go_loop [6, 10, 18] (fun s _ i => ∃ (k : Nat) (x : Int), k ≤ len1 ∧ i = .int .i64 k ∧ s = .int .i64 x ∧ (-9223372036854775808 ≤ x ∧ x ≤ 9223372036854775807) ∧ dotO x (xs.drop k) (ys.drop k) = dotO 0 xs ys) (fun _ _ i => len1 - (intOf i).toNat)
        case atStart => exact ⟨0, 0, Nat.zero_le _, rfl, rfl, by decide, rfl⟩
        case round =>
          obtain ⟨k, x, hk, rfl, rfl, hx0, hs⟩ := hrel
          have HS : Hid (dotO x (xs.drop k) (ys.drop k) = dotO 0 xs ys) := hs
          clear hs
          by_cases hlt : k < len1
          · have hck1 := hc1 k (by omega)
            have hck2 := hc2 k (by omega)
            have hzk1 := hx k
            have hzk2 := hy k
            have HD1 : Hid (xs.drop k = nth xs k :: xs.drop (k + 1)) := drop_nth xs k (by omega)
            have HD2 : Hid (ys.drop k = nth ys k :: ys.drop (k + 1)) := drop_nth ys k (by omega)
            have hml := mul_any (nth xs k) (nth ys k)
            generalize hp : nth xs k * nth ys k = p at *
            have HP : Hid (nth xs k * nth ys k = p) := hp
            clear hp
            by_cases hf : -9223372036854775808 ≤ p ∧ p ≤ 9223372036854775807
            · have hfb := fitB_yes hf
              have hfv := fitV_yes hf
              rw [hfb, hfv] at hml
              have HF : Hid (fitB p = true) := hfb
              clear hfb hfv
              have had := add_any x p
              by_cases hg : -9223372036854775808 ≤ x + p ∧ x + p ≤ 9223372036854775807
              · have hgb := fitB_yes hg
                have hgv := fitV_yes hg
                rw [hgb, hgv] at had
                have HGB : Hid (fitB (x + p) = true) := hgb
                clear hgb hgv
                go_wp2_with (first | (go_at_call 137; refine (hml _ hzk1 hzk2).mono ?_; rintro e w' ⟨rfl, rfl⟩) | (go_at_call 138; refine (had _ hx0 hf).mono ?_; rintro e w' ⟨rfl, rfl⟩))
                go_round
                case rel => exact ⟨k + 1, x + p, by omega, by go_num, rfl, hg, by rw [← HS.out, HD1.out, HD2.out, dotO, HP.out, HF.out, HGB.out]; rfl⟩
                case measure => simp [intOf]; omega
              · have hgb := fitB_no hg
                have hgv := fitV_no hg
                rw [hgb, hgv] at had
                have HGB : Hid (fitB (x + p) = false) := hgb
                clear hgb hgv
                go_wp2_with (first | (go_at_call 137; refine (hml _ hzk1 hzk2).mono ?_; rintro e w' ⟨rfl, rfl⟩) | (go_at_call 138; refine (had _ hx0 hf).mono ?_; rintro e w' ⟨rfl, rfl⟩))
                go_ret2
                have e : dotO 0 xs ys = none := by rw [← HS.out, HD1.out, HD2.out, dotO, HP.out, HF.out, HGB.out]; rfl
                exact ⟨ret_two (by rw [HV.out, e]; rfl) (by rw [HB.out, e]; rfl), rfl⟩
            · have hfb := fitB_no hf
              have hfv := fitV_no hf
              rw [hfb, hfv] at hml
              have HF : Hid (fitB p = false) := hfb
              clear hfb hfv
              go_wp2_with (first | (go_at_call 137; refine (hml _ hzk1 hzk2).mono ?_; rintro e w' ⟨rfl, rfl⟩))
              go_ret2
              have e : dotO 0 xs ys = none := by rw [← HS.out, HD1.out, HD2.out, dotO, HP.out, HF.out]; rfl
              exact ⟨ret_two (by rw [HV.out, e]; rfl) (by rw [HB.out, e]; rfl), rfl⟩
          · have HD1 : Hid (xs.drop k = []) := drop_end xs k (by omega)
            go_wp2
            go_ret2
            have e : dotO 0 xs ys = some x := by rw [← HS.out, HD1.out, dotO_nil_left]
            exact ⟨ret_two (by rw [HV.out, e]; rfl) (by rw [HB.out, e]; rfl), rfl⟩
  · have HV : Hid (dotV xs ys = 0) := by show dotV xs ys = _; unfold dotV; rw [if_neg (by omega)]
    have HB : Hid (dotB xs ys = false) := by show dotB xs ys = _; unfold dotB; rw [decide_eq_false (by omega)]; rfl
    have hne2 : ((len1 : Int) == (len2 : Int)) = false := by simp; omega
    have hne3 : ((len1 : Int) != (len2 : Int)) = true := by simp; omega
    clear hl1 hl2
    go_enter Try.func135, Try.ntmps135
    go_wp2
    go_ret2
    exact ⟨ret_two HV.out.symm HB.out.symm, rfl⟩
end Go.Proofs.Ythgblljokonejaa
