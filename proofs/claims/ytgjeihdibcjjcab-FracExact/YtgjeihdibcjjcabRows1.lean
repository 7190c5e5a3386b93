/- What the program's own Sum, Gcd, hasZero, Lcm and Dot answer over rows of numbers in memory. -/
import Derived.Test.YtgjeihdibcjjcabBase
namespace Go.Proofs.Ytgjeihdibcjjcab
open Go.ChangeShapes Go.WideShapes Go.ChangeAt Go.RowKit

/-- A row of numbers lies in memory where a slice says. -/
def At (w : World) (a : Option Addr) (zs : List Int) : Prop :=
  zs = [] ∨ ∃ b off, a = some ⟨b, off, none⟩ ∧ ∀ k, k < zs.length → w.cell? ⟨b, off + k, none⟩ = some (.int .i64 (nth zs k))

theorem lcm_facts {x s : Nat} (hx : 1 ≤ x) (hs : 1 ≤ s) (hx2 : x ≤ 9223372036854775807) :
    ∃ g q l : Nat, Hid (Nat.gcd s x = g) ∧ Hid (Nat.lcm x s = l) ∧ 1 ≤ g ∧ g ≤ 9223372036854775807 ∧ ((x : Int) / (g : Int) = (q : Int)) ∧ 1 ≤ q ∧ q ≤ 9223372036854775807 ∧ 1 ≤ l ∧ (q : Int) * (s : Int) = (l : Int) := by
  obtain ⟨h1, h2, h3, h4⟩ := lcm_by hx hs
  have h5 : Nat.gcd s x ≤ x := Nat.le_of_dvd (by omega) (Nat.gcd_dvd_right s x)
  have h6 : x / Nat.gcd s x ≤ x := Nat.div_le_self _ _
  exact ⟨_, x / Nat.gcd s x, _, rfl, rfl, h1, by omega, by omega, h3, by omega, h4, by rw [← h2]; simp⟩

set_option maxHeartbeats 400000 in
theorem gcd_any (a : Option Addr) (zs : List Int) (len cap : Nat) (w : World) (hl : zs.length = len) (hm : len ≤ 4611686018427387904) (hz : InR zs) (h : At w a zs) :
    Calls Try.prog 49 #[.slice a len cap] w fun e w' => ∃ n : Nat, e = .returned (.tuple #[.int .i64 (gcdV zs), .bool (gcdB zs)]) ∧ w' = w.drewN n := by
  rcases h with h | ⟨b, off, rfl, hc⟩
  · subst h
    subst hl
    go_enter Try.func49, Try.ntmps49
    go_wp2
    go_loop [4, 9] (fun s i => s = .int .i64 0 ∧ i = .int .i64 0) (fun _ _ => 0)
    case atStart => exact ⟨rfl, rfl⟩
    case round =>
      obtain ⟨rfl, rfl⟩ := hrel
      go_wp2_with (go_at_call 62; refine (absolute_any _ _ (by decide)).mono ?_; rintro e w' ⟨rfl, rfl⟩)
      go_ret2
      exact ⟨0, rfl, rfl⟩
  · go_enter Try.func49, Try.ntmps49
    go_wp2
    go_loopw [4, 9] (fun s i w' => ∃ (k n : Nat) (x : Int), k ≤ len ∧ w' = w.drewN n ∧ i = .int .i64 k ∧ s = .int .i64 x ∧ (-9223372036854775808 ≤ x ∧ x ≤ 9223372036854775807) ∧ gcdO x.natAbs (zs.drop k) = gcdO 0 zs) (fun _ i _ => len - (intOf i).toNat)
    case atStart => exact ⟨0, 0, 0, Nat.zero_le _, rfl, rfl, rfl, by decide, rfl⟩
    case round =>
      obtain ⟨k, n, x, hk, rfl, rfl, rfl, hx, hs⟩ := hrel
      have HS : Hid (gcdO x.natAbs (zs.drop k) = gcdO 0 zs) := hs
      clear hs
      by_cases hlt : k < len
      · have hck := hc k (by omega)
        have hzk := hz k
        have HD : Hid (zs.drop k = nth zs k :: zs.drop (k + 1)) := drop_nth zs k (by omega)
        go_wp2_with (go_at_call 61; refine (common_any _ _ _ hx hzk).mono ?_; rintro e w' ⟨g, m, rfl, rfl, hg, hgg, -⟩)
        have HG : Hid (g.natAbs = Nat.gcd x.natAbs (nth zs k).natAbs) := hgg
        clear hgg
        go_wp2
        go_roundw
        case rel => exact ⟨k + 1, n + m, g, by omega, rfl, by go_num, rfl, hg, by rw [HG.out, ← HS.out, HD.out]; rfl⟩
        case measure => simp [intOf]; omega
      · have HD : Hid (zs.drop k = []) := drop_end zs k (by omega)
        go_wp2_with (go_at_call 62; refine (absolute_any _ _ hx).mono ?_; rintro e w' ⟨rfl, rfl⟩)
        go_ret2
        have e : gcdO 0 zs = x.natAbs := by rw [← HS.out, HD.out]; rfl
        exact ⟨n, ret_two (by rw [gcdV, e]) (by rw [gcdB, e]), rfl⟩

set_option maxHeartbeats 400000 in
theorem hasZero_any (a : Option Addr) (zs : List Int) (len cap : Nat) (w : World) (hl : zs.length = len) (hm : len ≤ 4611686018427387904) (h : At w a zs) :
    Calls Try.prog 63 #[.slice a len cap] w fun e w' => e = .returned (.bool (zeroB zs)) ∧ w = w' := by
  rcases h with h | ⟨b, off, rfl, hc⟩
  · subst h
    subst hl
    go_enter Try.func63, Try.ntmps63
    go_wp2
    go_loop [7] (fun i => i = .int .i64 0) (fun _ => 0)
    case atStart => exact rfl
    case round =>
      subst hrel
      go_wp2
      go_ret
      exact ⟨rfl, rfl⟩
  · go_enter Try.func63, Try.ntmps63
    go_wp2
    go_loop [7] (fun i => ∃ (k : Nat), k ≤ len ∧ i = .int .i64 k ∧ zeroB (zs.drop k) = zeroB zs) (fun i => len - (intOf i).toNat)
    case atStart => exact ⟨0, Nat.zero_le _, rfl, rfl⟩
    case round =>
      obtain ⟨k, hk, rfl, hs⟩ := hrel
      have HS : Hid (zeroB (zs.drop k) = zeroB zs) := hs
      clear hs
      by_cases hlt : k < len
      · have hck := hc k (by omega)
        have HD : Hid (zs.drop k = nth zs k :: zs.drop (k + 1)) := drop_nth zs k (by omega)
        by_cases hf : nth zs k = 0
        · have hf0 : (nth zs k == 0) = true := by simpa using hf
          have HF : Hid (nth zs k = 0) := hf
          clear hf
          go_wp2
          go_ret
          have e : zeroB zs = true := by rw [← HS.out, HD.out, zeroB, HF.out]; rfl
          exact ⟨by rw [e]; rfl, rfl⟩
        · have hf0 : (nth zs k == 0) = false := by simpa using hf
          go_wp2
          go_round
          case rel => exact ⟨k + 1, by omega, by go_num, by rw [← HS.out, HD.out, zeroB, hf0]; rfl⟩
          case measure => simp [intOf]; omega
      · have HD : Hid (zs.drop k = []) := drop_end zs k (by omega)
        go_wp2
        go_ret
        have e : zeroB zs = false := by rw [← HS.out, HD.out]; rfl
        exact ⟨by rw [e]; rfl, rfl⟩

set_option maxHeartbeats 400000 in
theorem lcm_any (a : Option Addr) (zs : List Int) (len cap : Nat) (w : World) (hl : zs.length = len) (hm : len ≤ 4611686018427387904) (hz : InR zs) (h : At w a zs) :
    Calls Try.prog 52 #[.slice a len cap] w fun e w' => ∃ n : Nat, e = .returned (.tuple #[.int .i64 (lcmV zs), .bool (lcmB zs)]) ∧ w' = w.drewN n := by
  have hh := hasZero_any a zs len cap w hl hm h
  rcases h with h | ⟨b, off, rfl, hc⟩
  · subst h
    subst hl
    have h0 : zeroB [] = false := rfl
    rw [h0] at hh
    go_enter Try.func52, Try.ntmps52
    go_wp2_with (go_at_call 63; refine hh.mono ?_; rintro e w' ⟨rfl, rfl⟩)
    go_loop [4, 8, 13] (fun s _ i => s = .int .i64 1 ∧ i = .int .i64 0) (fun _ _ _ => 0)
    case atStart => exact ⟨rfl, rfl⟩
    case round =>
      obtain ⟨rfl, rfl⟩ := hrel
      go_wp2
      go_ret2
      first | exact ⟨0, rfl, rfl⟩ | exact ⟨rfl, 0, rfl⟩
  · by_cases hzr : zeroB zs = true
    · rw [hzr] at hh
      have HZ : Hid (zeroB zs = true) := hzr
      clear hzr
      go_enter Try.func52, Try.ntmps52
      go_wp2_with (go_at_call 63; refine hh.mono ?_; rintro e w' ⟨rfl, rfl⟩)
      go_ret2
      exact ⟨0, ret_two (by rw [lcmV, HZ.out]; rfl) (by rw [lcmB, HZ.out]; rfl), rfl⟩
    · have hzr' : zeroB zs = false := by simpa using hzr
      rw [hzr'] at hh
      have HZ : Hid (zeroB zs = false) := hzr'
      clear hzr hzr'
      go_enter Try.func52, Try.ntmps52
      go_wp2_with (go_at_call 63; refine hh.mono ?_; rintro e w' ⟨rfl, rfl⟩)
      go_loopw [4, 8, 13] (fun s _ i w' => ∃ (k n x : Nat), k ≤ len ∧ w' = w.drewN n ∧ i = .int .i64 k ∧ s = .int .i64 x ∧ (1 ≤ x ∧ x ≤ 9223372036854775807) ∧ lcmO x (zs.drop k) = lcmO 1 zs) (fun _ _ i _ => len - (intOf i).toNat)
      case atStart => exact ⟨0, 0, 1, Nat.zero_le _, rfl, rfl, rfl, by decide, rfl⟩
      case round =>
        obtain ⟨k, n, x, hk, rfl, rfl, rfl, ⟨hx1, hx2⟩, hs⟩ := hrel
        have HS : Hid (lcmO x (zs.drop k) = lcmO 1 zs) := hs
        clear hs
        by_cases hlt : k < len
        · have hck := hc k (by omega)
          have hzk := hz k
          have HD : Hid (zs.drop k = nth zs k :: zs.drop (k + 1)) := drop_nth zs k (by omega)
          have hnz : nth zs k ≠ 0 := zeroB_nth HZ.out k (by omega)
          by_cases hf : nth zs k = -9223372036854775808
          · have hfb : fitB (nth zs k).natAbs = false := by rw [hf]; decide
            have hfv : fitV (nth zs k).natAbs = 0 := by rw [hf]; decide
            have HL : Hid (fitB (Nat.lcm x (nth zs k).natAbs : Nat) = false) := lcm_least hx1 hf
            clear hf
            go_wp2_with (go_at_call 62; refine (absolute_any _ _ hzk).mono ?_; rintro e w' ⟨rfl, rfl⟩)
            go_ret2
            have e : lcmO 1 zs = none := by rw [← HS.out, HD.out, lcmO, HL.out]; rfl
            exact ⟨n, ret_two (by rw [lcmV, HZ.out, e]; rfl) (by rw [lcmB, HZ.out, e]; rfl), rfl⟩
          · have hsz : 1 ≤ (nth zs k).natAbs ∧ (nth zs k).natAbs ≤ 9223372036854775807 := by omega
            have hfb : fitB (nth zs k).natAbs = true := fitB_yes (by omega)
            have hfv : fitV (nth zs k).natAbs = (nth zs k).natAbs := fitV_yes (by omega)
            obtain ⟨g, q, l, HG, HL, hg1, hg2, hq, hq1, hq2, hl1, hmul⟩ := lcm_facts hx1 hsz.1 hx2
            generalize hsn : (nth zs k).natAbs = s at *
            have HN : Hid ((nth zs k).natAbs = s) := hsn
            clear hsn hf hnz
            obtain ⟨hs1, hs2⟩ := hsz
            have hcm := common_nat s x
            rw [HG.out] at hcm
            have hab := absolute_any (nth zs k)
            rw [HN.out, hfb, hfv] at hab
            by_cases hfl : l ≤ 9223372036854775807
            · have hml := mul_any q s
              have hb2 : fitB (q * s : Int) = true := by rw [hmul]; exact fitB_yes (by omega)
              have hv2 : fitV (q * s : Int) = l := by rw [hmul]; exact fitV_yes (by omega)
              rw [hb2, hv2] at hml
              clear hfb hfv hmul hb2 hv2
              go_wp2_with (first | (go_at_call 62; refine (hab _ hzk).mono ?_; rintro e w' ⟨rfl, rfl⟩) | (go_at_call 61; refine (hcm _ hs2 hx2).mono ?_; rintro e w' ⟨m, rfl, rfl⟩) | (go_at_call 46; refine (hml _ (by omega) (by omega)).mono ?_; rintro e w' ⟨rfl, rfl⟩))
              go_roundw
              case rel => exact ⟨k + 1, n + m, l, by omega, rfl, by go_num, rfl, ⟨hl1, hfl⟩, by rw [← HS.out, HD.out, lcmO, HN.out, HL.out, fitB_yes (by omega)]; rfl⟩
              case measure => simp [intOf]; omega
            · have hml := mul_any q s
              have hb2 : fitB (q * s : Int) = false := by rw [hmul]; exact fitB_no (by omega)
              have hv2 : fitV (q * s : Int) = 0 := by rw [hmul]; exact fitV_no (by omega)
              rw [hb2, hv2] at hml
              clear hfb hfv hmul hb2 hv2
              go_wp2_with (first | (go_at_call 62; refine (hab _ hzk).mono ?_; rintro e w' ⟨rfl, rfl⟩) | (go_at_call 61; refine (hcm _ hs2 hx2).mono ?_; rintro e w' ⟨m, rfl, rfl⟩) | (go_at_call 46; refine (hml _ (by omega) (by omega)).mono ?_; rintro e w' ⟨rfl, rfl⟩))
              go_ret2
              have e : lcmO 1 zs = none := by rw [← HS.out, HD.out, lcmO, HN.out, HL.out, fitB_no (by omega)]; rfl
              exact ⟨n + m, ret_two (by rw [lcmV, HZ.out, e]; rfl) (by rw [lcmB, HZ.out, e]; rfl), rfl⟩
        · have HD : Hid (zs.drop k = []) := drop_end zs k (by omega)
          go_wp2
          go_ret2
          have e : lcmO 1 zs = some x := by rw [← HS.out, HD.out]; rfl
          exact ⟨n, ret_two (by rw [lcmV, HZ.out, e]; rfl) (by rw [lcmB, HZ.out, e]; rfl), rfl⟩

theorem dotO_nil_left (s : Int) (ys : List Int) : dotO s [] ys = some s := by cases ys <;> rfl

end Go.Proofs.Ytgjeihdibcjjcab
