/- The walk through the statement CancelEquals. -/
import Derived.Test.YtgjeihdibcjjcaaCRef
import Derived.Test.YtgjeihdibcjjcaaCAwake
namespace Go.Proofs.Ytgjeihdibcjjcaa
open Go.ChangeShapes Go.WideShapes Go.ChangeAt Go.RowKit

set_option maxRecDepth 100000 in
set_option maxHeartbeats 700000 in
theorem cequals_any (a1 : Option Addr) (len1 cap1 : Nat) (xs : List Int) (a2 : Option Addr) (len2 cap2 : Nat) (ys : List Int) (w : World) (hA1 : Arg w a1 len1 cap1 xs) (hA2 : Arg w a2 len2 cap2 ys) :
    Calls Try.prog 4 #[.slice a1 len1 cap1, .slice a2 len2 cap2] w fun e w' => e = .returned (.bool true) ∧ Below w.heap.size w w' := by
  have hr1 := hA1.reach
  have hr2 := hA2.reach
  have L1 : Hid (∀ W, Arg W a1 len1 cap1 xs → Calls Try.prog 9 #[.slice a1 len1 cap1] W (LentEnd W len1 xs)) := fun W h => lent_any a1 xs len1 cap1 W h
  have L2 : Hid (∀ W, Arg W a2 len2 cap2 ys → Calls Try.prog 9 #[.slice a2 len2 cap2] W (LentEnd W len2 ys)) := fun W h => lent_any a2 ys len2 cap2 W h
  have D1 : Hid (∀ b1 b2 c1 c2 W, At W b1 xs → At W b2 ys → Calls Try.prog 16 #[.slice b1 len1 c1, .slice b2 len2 c2] W (EqEnd W xs ys)) :=
    fun b1 b2 c1 c2 W k1 k2 => equal_any b1 b2 xs ys len1 c1 len2 c2 W hA1.size hA2.size (by omega) (by omega) hA1.fits hA2.fits k1 k2
  have D2 : Hid (∀ W, At W a1 xs → At W a2 ys → Calls Try.prog 17 #[.slice a1 len1 cap1, .slice a2 len2 cap2] W (EqEnd W xs ys)) :=
    fun W k1 k2 => requal_any a1 a2 xs ys len1 cap1 len2 cap2 W hA1.size hA2.size (by omega) (by omega) hA1.fits hA2.fits k1 k2
  have HA1 : Hid (Arg w a1 len1 cap1 xs) := hA1
  have HA2 : Hid (Arg w a2 len2 cap2 ys) := hA2
  have K1 : Hid (∀ g W, Lend w.heap.size W g len1 xs → Arg W a1 len1 cap1 xs → Calls Try.prog 13 #[.slice (some ⟨g, 0, none⟩) len1 (len1 + 4), .slice a1 len1 cap1] W (fun e w' => ∃ n : Nat, e = .returned (.bool true) ∧ w' = W.drewN n)) :=
    fun g W k1 k2 => kept_any g a1 xs len1 cap1 w.heap.size W k1 k2
  have K2 : Hid (∀ g b W, Lend b W g len2 ys → Arg W a2 len2 cap2 ys → Calls Try.prog 13 #[.slice (some ⟨g, 0, none⟩) len2 (len2 + 4), .slice a2 len2 cap2] W (fun e w' => ∃ n : Nat, e = .returned (.bool true) ∧ w' = W.drewN n)) :=
    fun g b W k1 k2 => kept_any g a2 ys len2 cap2 b W k1 k2
  clear hA1 hA2
  unfold EqEnd at D1 D2
  generalize eqB xs ys = v at *
  generalize cE xs ys = f at *
  have q1 : (v == v) = true := by simp
  have q2 : (f == f) = true := by simp
  go_enter Try.func4, Try.ntmps4
  go_wp2_with (first
    | (go_at_call 13; (with_reducible refine (K2.out _ _ _ (hlend2.below (bdrew hM n4)) (HA2.out.below (bdrew hB4 n4))).mono ?_); rintro e w5 ⟨n5, rfl, rfl⟩)
    | (go_at_call 13; (with_reducible refine (K1.out _ _ hL1 (HA1.out.below hB4)).mono ?_); rintro e w5 ⟨n4, rfl, rfl⟩)
    | (go_at_call 14; (with_reducible refine (awake3 _).mono ?_); rintro e w4 ⟨rfl, hbel4⟩; have hB4 := hB3.trans (hbel4.mono hB3.size); have hM := hM3.trans (hbel4.mono hM3.size); have hL1 := hL2.below (hbel3.trans (hbel4.mono hbel3.size)))
    | (go_at_call 17; (with_reducible refine (D2.out _ (HA1.out.lies.below hBq) (HA2.out.lies.below hBq)).mono ?_); rintro e w3 ⟨rfl, hbel3⟩; have hB3 := hBq.trans (hbel3.mono hBq.size); have hM3 := hbelq.trans (hbel3.mono hbelq.size); have hL2 := hL0.below hbelq)
    | (go_at_call 16; (with_reducible refine (D1.out _ _ _ _ _ hL0.at hlend2.at).mono ?_); rintro e wq ⟨rfl, hbelq⟩; have hBq := hB2.trans (hbelq.mono hB2.size))
    | (go_at_call 9; (with_reducible refine (L2.out w1 (HA2.out.below hbel1)).mono ?_); rintro e w2 ⟨g2, rfl, hlend2, hbel2⟩; have hB2 := hbel1.trans (hbel2.mono hbel1.size); have hL0 := hlend1.below hbel2)
    | (go_at_call 9; (with_reducible refine (L1.out w HA1.out).mono ?_); rintro e w1 ⟨g1, rfl, hlend1, hbel1⟩))
  go_ret
  exact ⟨rfl, by first | exact bdrew (bdrew hB4 n4) n5 | exact bdrew hB4 _⟩
end Go.Proofs.Ytgjeihdibcjjcaa
