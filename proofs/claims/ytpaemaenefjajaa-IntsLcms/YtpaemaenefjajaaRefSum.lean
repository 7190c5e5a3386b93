/- The document's Sum (pianolaref01): the same plain function. -/
import Derived.Test.YtpaemaenefjajaaRefAdd
namespace Go.Proofs.Ytpaemaenefjajaa
open Go.ChangeShapes Go.WideShapes Go.ChangeAt Go.RowKit

def Answers (w : World) (v : Int) (f : Bool) (e : Ending) (w' : World) : Prop := e = .returned (.tuple #[.int .i64 v, .bool f]) ∧ Below w.heap.size w w'

set_option maxHeartbeats 1000000 in
theorem rsum_any (a : Option Addr) (zs : List Int) (len cap : Nat) (w : World) (hl : zs.length = len) (hm : len ≤ 4611686018427387904) (hz : InR zs) (h : At w a zs) :
    Calls Try.prog 18 #[.slice a len cap] w (Answers w (sumV zs) (sumB zs)) := by
  rcases h with h | ⟨b, off, rfl, hc⟩
  · subst h
    subst hl
    go_enter Try.func18, Try.ntmps18
    go_wp2
    go_loop [4, 5, 6, 7] (fun s i _ _ => s = .int .i64 0 ∧ i = .int .i64 0) (fun _ _ _ _ => 0)
    case atStart => exact ⟨rfl, rfl⟩
    case round =>
      obtain ⟨rfl, rfl⟩ := hrel
      go_wp2
      go_ret2
      exact ⟨rfl, Below.refl _ _⟩
  · have HC : Hid (∀ k, k < zs.length → w.cell? ⟨b, off + k, none⟩ = some (.int .i64 (nth zs k))) := hc
    clear hc
    go_enter Try.func18, Try.ntmps18
    go_wp2
    go_loopg [4, 5, 6, 7] len (fun gk s i _ _ wr => ∃ (k : Nat) (x : Int), k ≤ len ∧ gk = len - k ∧ i = .int .i64 k ∧ s = .int .i64 x ∧ (-9223372036854775808 ≤ x ∧ x ≤ 9223372036854775807) ∧ sumO x (zs.drop k) = sumO 0 zs ∧ Below w.heap.size w wr)
    case atStart => exact ⟨0, 0, Nat.zero_le _, rfl, rfl, rfl, by decide, rfl, Below.refl _ _⟩
    case round =>
      obtain ⟨k, x, hk, rfl, rfl, rfl, hx, hs, hbel⟩ := hrel
      have HS : Hid (sumO x (zs.drop k) = sumO 0 zs) := hs
      clear hs
      by_cases hlt : k < len
      · have hck : wr.cell? ⟨b, off + k, none⟩ = some (.int .i64 (nth zs k)) := by rw [hbel.cell (block_lt_of_cell (HC.out k (by omega)))]; exact HC.out k (by omega)
        have hzk := hz k
        have HD : Hid (zs.drop k = nth zs k :: zs.drop (k + 1)) := drop_nth zs k (by omega)
        have HA : Hid (∀ W, Calls Try.prog 12 #[.int .i64 x, .int .i64 (nth zs k)] W (Told W (x + nth zs k))) := fun W => radd_any _ _ W hx hzk
        by_cases hf : -9223372036854775808 ≤ x + nth zs k ∧ x + nth zs k ≤ 9223372036854775807
        · have hfb := fitB_yes hf
          have hfv := fitV_yes hf
          go_wp2_with (go_at_call 12; refine (HA.out _).mono ?_; rintro e w' ⟨rfl, hb1⟩)
          go_roundg (len - (k + 1))
          case measure => omega
          case rel => exact ⟨k + 1, x + nth zs k, by omega, rfl, by go_num, rfl, hf, by rw [← HS.out, HD.out, sumO, hfb]; rfl, hbel.trans (hb1.mono hbel.size)⟩
        · have hfb := fitB_no hf
          have hfv := fitV_no hf
          go_wp2_with (go_at_call 12; refine (HA.out _).mono ?_; rintro e w' ⟨rfl, hb1⟩)
          go_ret2
          have e : sumO 0 zs = none := by rw [← HS.out, HD.out, sumO, hfb]; rfl
          exact ⟨ret_two (by rw [sumV, e]; rfl) (by rw [sumB, e]; rfl), hbel.trans (hb1.mono hbel.size)⟩
      · have HD : Hid (zs.drop k = []) := drop_end zs k (by omega)
        go_wp2
        go_ret2
        have e : sumO 0 zs = some x := by rw [← HS.out, HD.out]; rfl
        exact ⟨ret_two (by rw [sumV, e]; rfl) (by rw [sumB, e]; rfl), hbel⟩
end Go.Proofs.Ytpaemaenefjajaa
