/- The walk through the statement IntsLcms. -/
import Derived.Test.YtpaemaenefjajaaKeep
import Derived.Test.YtpaemaenefjajaaRefLcm
namespace Go.Proofs.Ytpaemaenefjajaa
open Go.ChangeShapes Go.WideShapes Go.ChangeAt Go.RowKit

set_option maxRecDepth 100000 in
set_option maxHeartbeats 1000000 in
theorem lcms_any (a : Option Addr) (len cap : Nat) (zs : List Int) (w : World) (hA : Arg w a len cap zs) :
    Calls Try.prog 6 #[.slice a len cap] w fun e w' => e = .returned (.bool true) ∧ Below w.heap.size w w' := by
  have hlent := lent_any a zs len cap w hA
  have hr := hA.reach
  have hlcm := fun a cap w' h => lcm_any a zs len cap w' hA.size (by omega) hA.fits h
  have hrlcm := fun w' h => rlcm_any a zs len cap w' hA.size (by omega) hA.fits h
  have HA : Hid (Arg w a len cap zs) := hA
  clear hA
  generalize lcmV zs = v at *
  generalize lcmB zs = f at *
  have q1 : (v == v) = true := by simp
  have q2 : (f == f) = true := by simp
  go_enter Try.func6, Try.ntmps6
  go_wp2_with (first
    | (go_at_call 16; refine hlent.mono ?_; rintro e w1 ⟨g, rfl, hlend, hbel⟩)
    | (go_at_call 22; refine (hlcm _ _ _ hlend.at).mono ?_; rintro e w' ⟨n1, rfl, rfl⟩; have hB1 := bdrew hbel n1; have hL1 := hlend.below (bdrew (Below.refl _ _) n1))
    | (go_at_call 23; refine (hrlcm _ (HA.out.lies.below hB1)).mono ?_; rintro e w2 ⟨rfl, hbel2⟩; have hB2 := hB1.trans (hbel2.mono hB1.size))
    | (go_at_call 15; refine (awake_any _).mono ?_; rintro e w3 ⟨rfl, hbel3⟩; have hB3 := hB2.trans (hbel3.mono hB2.size))
    | (go_at_call 19; refine (kept_any g a zs len cap w.heap.size _ (hL1.below (hbel2.trans (hbel3.mono hbel2.size))) (HA.out.below hB3)).mono ?_; rintro e w4 ⟨n4, rfl, rfl⟩))
  go_ret
  exact ⟨rfl, bdrew hB3 n4⟩
end Go.Proofs.Ytpaemaenefjajaa
