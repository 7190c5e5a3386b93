/- What the program's own Sum, Gcd, hasZero, Lcm and Dot answer over rows of numbers in memory. -/
import Derived.Test.YtgjeihdibcjjcaaBase
namespace Go.Proofs.Ytgjeihdibcjjcaa
open Go.ChangeShapes Go.WideShapes Go.ChangeAt Go.RowKit

/-- A row of numbers lies in memory where a slice says. -/
def At (w : World) (a : Option Addr) (zs : List Int) : Prop :=
  zs = [] ∨ ∃ b off, a = some ⟨b, off, none⟩ ∧ ∀ k, k < zs.length → w.cell? ⟨b, off + k, none⟩ = some (.int .i64 (nth zs k))

theorem lcm_facts {x s : Nat} (hx : 1 ≤ x) (hs : 1 ≤ s) (hx2 : x ≤ 9223372036854775807) :
    ∃ g q l : Nat, Hid (Nat.gcd s x = g) ∧ Hid (Nat.lcm x s = l) ∧ 1 ≤ g ∧ g ≤ 9223372036854775807 ∧ ((x : Int) / (g : Int) = (q : Int)) ∧ 1 ≤ q ∧ q ≤ 9223372036854775807 ∧ 1 ≤ l ∧ (q : Int) * (s : Int) = (l : Int) := by
  obtain ⟨h1, h2, h3, h4⟩ := lcm_by hx hs
  have h5 : Nat.gcd s x ≤ x := Nat.le_of_dvd (by omega) (Nat.gcd_dvd_right s x)
  have h6 : x / Nat.gcd s x ≤ x := Nat.div_le_self _ _
  exact ⟨_, x / Nat.gcd s x, _, rfl, rfl, h1, by omega, by omega, h3, by omega, h4, by rw [← h2]; simp⟩

set_option maxHeartbeats 400000 in
theorem gcd_any (a : Option Addr) (zs : List Int) (len cap : Nat) (w : World) (hl : zs.length = len) (hm : len ≤ 4611686018427387904) (hz : InR zs) (h : At w a zs) :
    Calls Try.prog 37 #[.slice a len cap] w fun e w' => ∃ n : Nat, e = .returned (.tuple #[.int .i64 (gcdV zs), .bool (gcdB zs)]) ∧ w' = w.drewN n := by
  rcases h with h | ⟨b, off, rfl, hc⟩
  · subst h
    subst hl
    go_enter Try.func37, Try.ntmps37
    go_wp2
    go_loop [4, 9] (fun s i => s = .int .i64 0 ∧ i = .int .i64 0) (fun _ _ => 0)
    case atStart => exact ⟨rfl, rfl⟩
    case round =>
      obtain ⟨rfl, rfl⟩ := hrel
      go_wp2_with (go_at_call 43; refine (absolute_any _ _ (by decide)).mono ?_; rintro e w' ⟨rfl, rfl⟩)
      go_ret2
      exact ⟨0, rfl, rfl⟩
  · go_enter Try.func37, Try.ntmps37
    go_wp2
    go_loopw [4, 9] (fun s i w' => ∃ (k n : Nat) (x : Int), k ≤ len ∧ w' = w.drewN n ∧ i = .int .i64 k ∧ s = .int .i64 x ∧ (-9223372036854775808 ≤ x ∧ x ≤ 9223372036854775807) ∧ gcdO x.natAbs (zs.drop k) = gcdO 0 zs) (fun _ i _ => len - (intOf i).toNat)
    case atStart => exact ⟨0, 0, 0, Nat.zero_le _, rfl, rfl, rfl, by decide, rfl⟩
    case round =>
      obtain ⟨k, n, x, hk, rfl, rfl, rfl, hx, hs⟩ := hrel
      have HS : Hid (gcdO x.natAbs (zs.drop k) = gcdO 0 zs) := hs
      clear hs
      by_cases hlt : k < len
      · have hck := hc k (by omega)
        have hzk := hz k
        have HD : Hid (zs.drop k = nth zs k :: zs.drop (k + 1)) := drop_nth zs k (by omega)
        go_wp2_with (go_at_call 42; refine (common_any _ _ _ hx hzk).mono ?_; rintro e w' ⟨g, m, rfl, rfl, hg, hgg, -⟩)
        have HG : Hid (g.natAbs = Nat.gcd x.natAbs (nth zs k).natAbs) := hgg
        clear hgg
        go_wp2
        go_roundw
        case rel => exact ⟨k + 1, n + m, g, by omega, rfl, by go_num, rfl, hg, by rw [HG.out, ← HS.out, HD.out]; rfl⟩
        case measure => simp [intOf]; omega
      · have HD : Hid (zs.drop k = []) := drop_end zs k (by omega)
        go_wp2_with (go_at_call 43; refine (absolute_any _ _ hx).mono ?_; rintro e w' ⟨rfl, rfl⟩)
        go_ret2
        have e : gcdO 0 zs = x.natAbs := by rw [← HS.out, HD.out]; rfl
        exact ⟨n, ret_two (by rw [gcdV, e]) (by rw [gcdB, e]), rfl⟩

theorem dotO_nil_left (s : Int) (ys : List Int) : dotO s [] ys = some s := by cases ys <;> rfl

end Go.Proofs.Ytgjeihdibcjjcaa
