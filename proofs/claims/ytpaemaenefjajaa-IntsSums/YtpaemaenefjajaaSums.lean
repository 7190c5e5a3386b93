/- The walk through the statement IntsSums. -/
import Derived.Test.YtpaemaenefjajaaKeep
import Derived.Test.YtpaemaenefjajaaRefSum
namespace Go.Proofs.Ytpaemaenefjajaa
open Go.ChangeShapes Go.WideShapes Go.ChangeAt Go.RowKit

set_option maxRecDepth 100000 in
set_option maxHeartbeats 1000000 in
theorem sums_any (a : Option Addr) (len cap : Nat) (zs : List Int) (w : World) (hA : Arg w a len cap zs) :
    Calls Try.prog 4 #[.slice a len cap] w fun e w' => e = .returned (.bool true) ∧ Below w.heap.size w w' := by
  have hlent := lent_any a zs len cap w hA
  have hr := hA.reach
  have hsum := fun a cap w' h => sum_any a zs len cap w' hA.size (by omega) hA.fits h
  have hrsum := fun w' h => rsum_any a zs len cap w' hA.size (by omega) hA.fits h
  have HA : Hid (Arg w a len cap zs) := hA
  clear hA
  generalize sumV zs = v at *
  generalize sumB zs = f at *
  have q1 : (v == v) = true := by simp
  have q2 : (f == f) = true := by simp
  go_enter Try.func4, Try.ntmps4
  go_wp2_with (first
    | (go_at_call 16; refine hlent.mono ?_; rintro e w1 ⟨g, rfl, hlend, hbel⟩)
    | (go_at_call 17; refine (hsum _ _ _ hlend.at).mono ?_; rintro e w2 ⟨rfl, rfl⟩)
    | (go_at_call 18; refine (hrsum _ (HA.out.lies.below hbel)).mono ?_; rintro e w2 ⟨rfl, hbel2⟩)
    | (go_at_call 15; refine (awake_any _).mono ?_; rintro e w3 ⟨rfl, hbel3⟩)
    | (go_at_call 19; refine (kept_any g a zs len cap w.heap.size _ (hlend.below (hbel2.trans (hbel3.mono hbel2.size))) (HA.out.below ((hbel.trans (hbel2.mono hbel.size)).trans (hbel3.mono (hbel.trans (hbel2.mono hbel.size)).size)))).mono ?_; rintro e w4 ⟨n4, rfl, rfl⟩))
  go_ret
  exact ⟨rfl, bdrew ((hbel.trans (hbel2.mono hbel.size)).trans (hbel3.mono (hbel.trans (hbel2.mono hbel.size)).size)) n4⟩
end Go.Proofs.Ytpaemaenefjajaa
