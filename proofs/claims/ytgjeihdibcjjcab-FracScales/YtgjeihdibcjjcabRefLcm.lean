/- The document's Lcm (pianolaref01): the same plain function. -/
import Derived.Test.YtgjeihdibcjjcabRefGcd
import Derived.Test.YtgjeihdibcjjcabRefMul
import Derived.Test.YtgjeihdibcjjcabRefSum
namespace Go.Proofs.Ytgjeihdibcjjcab
open Go.ChangeShapes Go.WideShapes Go.ChangeAt Go.RowKit

/-- What one round reckons: the multiple over the greatest common divisor, and their product. -/
theorem rlcm_facts {x s : Nat} (hx : 1 ≤ x) (hs : 1 ≤ s) (hs2 : s ≤ 9223372036854775808) (hx2 : x ≤ 9223372036854775807) :
    ∃ g q l : Nat, Hid (Nat.gcd x s = g) ∧ Hid (Nat.lcm x s = l) ∧ 1 ≤ g ∧ g ≤ 9223372036854775807 ∧ ((s : Int) / (g : Int) = (q : Int)) ∧ 1 ≤ q ∧ q ≤ 9223372036854775808 ∧ 1 ≤ l ∧ (x : Int) * (q : Int) = (l : Int) ∧ q ≤ l := by
  have h1 : 0 < Nat.gcd x s := Nat.gcd_pos_of_pos_left _ (by omega)
  have h2 : x * (s / Nat.gcd x s) = Nat.lcm x s := by rw [Nat.lcm, Nat.mul_div_assoc _ (Nat.gcd_dvd_right x s)]
  have h3 : 0 < s / Nat.gcd x s := Nat.div_pos (Nat.le_of_dvd (by omega) (Nat.gcd_dvd_right x s)) h1
  have h4 : 0 < Nat.lcm x s := Nat.lcm_pos (by omega) (by omega)
  have h5 : Nat.gcd x s ≤ x := Nat.le_of_dvd (by omega) (Nat.gcd_dvd_left x s)
  have h6 : s / Nat.gcd x s ≤ s := Nat.div_le_self _ _
  have h7 : s / Nat.gcd x s ≤ Nat.lcm x s := by rw [← h2]; exact Nat.le_mul_of_pos_left _ (by omega)
  exact ⟨_, s / Nat.gcd x s, _, rfl, rfl, h1, by omega, by omega, h3, by omega, h4, by rw [← h2]; simp, h7⟩

set_option maxRecDepth 100000 in
set_option maxHeartbeats 1000000 in
theorem rlcm_any (a : Option Addr) (zs : List Int) (len cap : Nat) (w : World) (hl : zs.length = len) (hm : len ≤ 4611686018427387904) (hz : InR zs) (h : At w a zs) :
    Calls Try.prog 39 #[.slice a len cap] w (Answers w (lcmV zs) (lcmB zs)) := by
  by_cases h0 : len = 0
  · subst h0
    have e1 : zs = [] := List.eq_nil_of_length_eq_zero hl
    subst e1
    clear hl h
    have k1 : lcmV [] = 1 := by decide +kernel
    have k2 : lcmB [] = true := by decide +kernel
    rw [k1, k2]
    go_enter Try.func39, Try.ntmps39
    go_wp2
    go_loop [4] (fun i => i = .int .i64 0) (fun _ => 0)
    case atStart => exact rfl
    case round =>
      subst hrel
      go_wp2
      go_loop [5, 6, 7, 8, 9, 10] (fun s i _ _ _ _ => s = .int .i64 1 ∧ i = .int .i64 0) (fun _ _ _ _ _ _ => 0)
      case atStart => exact ⟨rfl, rfl⟩
      case round =>
        obtain ⟨rfl, rfl⟩ := hrel
        go_wp2
        go_ret2
        exact ⟨rfl, Below.refl _ _⟩
  · obtain ⟨b, off, rfl, hc⟩ := h.resolve_left (by rintro rfl; simp at hl; omega)
    have HC : Hid (∀ k, k < zs.length → w.cell? ⟨b, off + k, none⟩ = some (.int .i64 (nth zs k))) := hc
    clear hc h
    go_enter Try.func39, Try.ntmps39
    go_wp2
    go_loopg [4] len (fun gk i wr => w = wr ∧ ∃ k : Nat, k ≤ len ∧ gk = len - k ∧ i = .int .i64 k ∧ zeroB (zs.drop k) = zeroB zs)
    case atStart => exact ⟨rfl, 0, Nat.zero_le _, rfl, rfl, rfl⟩
    case round =>
      obtain ⟨rfl, k, hk, rfl, rfl, hs⟩ := hrel
      have HS : Hid (zeroB (zs.drop k) = zeroB zs) := hs
      clear hs
      by_cases hlt : k < len
      · have hck := HC.out k (by omega)
        have HD : Hid (zs.drop k = nth zs k :: zs.drop (k + 1)) := drop_nth zs k (by omega)
        by_cases hf : nth zs k = 0
        · have hf0 : (nth zs k == 0) = true := by simpa using hf
          have HF : Hid (nth zs k = 0) := hf
          clear hf
          go_wp2
          go_ret2
          have e : zeroB zs = true := by rw [← HS.out, HD.out, zeroB, HF.out]; rfl
          exact ⟨ret_two (by rw [lcmV, e]; rfl) (by rw [lcmB, e]; rfl), Below.refl _ _⟩
        · have hf0 : (nth zs k == 0) = false := by simpa using hf
          go_wp2
          go_roundg (len - (k + 1))
          case measure => omega
          case rel => exact ⟨rfl, k + 1, by omega, rfl, by go_num, by rw [← HS.out, HD.out, zeroB, hf0]; rfl⟩
      · have HD : Hid (zs.drop k = []) := drop_end zs k (by omega)
        have HZ : Hid (zeroB zs = false) := by show zeroB zs = false; rw [← HS.out, HD.out]; rfl
        clear HS HD
        go_wp2
        go_loopg [5, 6, 7, 8, 9, 10] len (fun gk s i _ _ _ _ wr => ∃ (k x : Nat), k ≤ len ∧ gk = len - k ∧ i = .int .i64 k ∧ s = .int .i64 x ∧ (1 ≤ x ∧ x ≤ 9223372036854775807) ∧ lcmO x (zs.drop k) = lcmO 1 zs ∧ Below w.heap.size w wr)
        case atStart => exact ⟨0, 1, Nat.zero_le _, rfl, rfl, rfl, by decide, rfl, Below.refl _ _⟩
        case round =>
          obtain ⟨k, x, hk, rfl, rfl, rfl, ⟨hx1, hx2⟩, hs, hbel⟩ := hrel
          have HS : Hid (lcmO x (zs.drop k) = lcmO 1 zs) := hs
          clear hs
          by_cases hlt : k < len
          · have hck : wr.cell? ⟨b, off + k, none⟩ = some (.int .i64 (nth zs k)) := by rw [hbel.cell (block_lt_of_cell (HC.out k (by omega)))]; exact HC.out k (by omega)
            have hzk := hz k
            have HD : Hid (zs.drop k = nth zs k :: zs.drop (k + 1)) := drop_nth zs k (by omega)
            have hnz : nth zs k ≠ 0 := zeroB_nth HZ.out k (by omega)
            obtain ⟨g, q, l, HG, HL, hg1, hg2, hq, hq1, hq2, hl1, hmul, hql⟩ := rlcm_facts (s := (nth zs k).natAbs) hx1 (by omega) (by omega) hx2
            have hab := fun W => rsize_any (nth zs k) W hzk
            have hcm := fun W => rcommon_any x (nth zs k).natAbs W (by omega) (by omega)
            rw [HG.out] at hcm
            have hs1 : 1 ≤ (nth zs k).natAbs := by omega
            have hs2 : (nth zs k).natAbs ≤ 9223372036854775808 := by omega
            have HL2 : Hid (lcmO 1 zs = if fitB (l : Nat) then lcmO l (zs.drop (k + 1)) else none) := by
              show lcmO 1 zs = _
              rw [← HS.out, HD.out, lcmO, HL.out]
            clear HS HD HG HL hnz
            generalize (nth zs k).natAbs = s at *
            have hg0 : ¬ (g : Int) = 0 := by omega
            have hg0' : ((g : Int) == 0) = false := by simp; omega
            by_cases hqb : q ≤ 9223372036854775807
            · have hqn : ¬ (9223372036854775807 : Int) < (q : Int) := by omega
              have HM : Hid (∀ W, Calls Try.prog 40 #[.int .i64 x, .int .i64 q] W (Told W (l : Int))) := fun W => by
                have := rmul_any x q W (by omega) (by omega)
                rwa [hmul] at this
              by_cases hfl : l ≤ 9223372036854775807
              · have hb2 : fitB (l : Int) = true := fitB_yes (by omega)
                have hv2 : fitV (l : Int) = l := fitV_yes (by omega)
                have HB2 : Hid (fitB (l : Nat) = true) := hb2
                clear hmul
                go_wp2_with (first | (go_at_call 54; refine (hab _).mono ?_; rintro e w' ⟨rfl, rfl⟩) | (go_at_call 14; refine (hcm _).mono ?_; rintro e w' ⟨rfl, rfl⟩) | (go_at_call 40; refine (HM.out _).mono ?_; rintro e w' ⟨rfl, hb1⟩))
                go_roundg (len - (k + 1))
                case measure => omega
                case rel => exact ⟨k + 1, l, by omega, rfl, by go_num, rfl, ⟨hl1, hfl⟩, by rw [HL2.out, HB2.out]; rfl, hbel.trans (hb1.mono hbel.size)⟩
              · have hb2 : fitB (l : Int) = false := fitB_no (by omega)
                have hv2 : fitV (l : Int) = 0 := fitV_no (by omega)
                have HB2 : Hid (fitB (l : Nat) = false) := hb2
                clear hmul
                go_wp2_with (first | (go_at_call 54; refine (hab _).mono ?_; rintro e w' ⟨rfl, rfl⟩) | (go_at_call 14; refine (hcm _).mono ?_; rintro e w' ⟨rfl, rfl⟩) | (go_at_call 40; refine (HM.out _).mono ?_; rintro e w' ⟨rfl, hb1⟩))
                go_ret2
                have e : lcmO 1 zs = none := by rw [HL2.out, HB2.out]; rfl
                exact ⟨ret_two (by rw [lcmV, HZ.out, e]; rfl) (by rw [lcmB, HZ.out, e]; rfl), hbel.trans (hb1.mono hbel.size)⟩
            · have hqn : (9223372036854775807 : Int) < (q : Int) := by omega
              have HB2 : Hid (fitB (l : Nat) = false) := fitB_no (by omega)
              clear hmul
              go_wp2_with (first | (go_at_call 54; refine (hab _).mono ?_; rintro e w' ⟨rfl, rfl⟩) | (go_at_call 14; refine (hcm _).mono ?_; rintro e w' ⟨rfl, rfl⟩))
              go_ret2
              have e : lcmO 1 zs = none := by rw [HL2.out, HB2.out]; rfl
              exact ⟨ret_two (by rw [lcmV, HZ.out, e]; rfl) (by rw [lcmB, HZ.out, e]; rfl), hbel⟩
          · have HD : Hid (zs.drop k = []) := drop_end zs k (by omega)
            go_wp2
            go_ret2
            have e : lcmO 1 zs = some x := by rw [← HS.out, HD.out]; rfl
            exact ⟨ret_two (by rw [lcmV, HZ.out, e]; rfl) (by rw [lcmB, HZ.out, e]; rfl), hbel⟩
end Go.Proofs.Ytgjeihdibcjjcab
