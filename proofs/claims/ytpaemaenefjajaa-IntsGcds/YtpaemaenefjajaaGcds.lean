/- The walk through the statement IntsGcds. -/
import Derived.Test.YtpaemaenefjajaaKeep
import Derived.Test.YtpaemaenefjajaaRefGcd
namespace Go.Proofs.Ytpaemaenefjajaa
open Go.ChangeShapes Go.WideShapes Go.ChangeAt Go.RowKit

set_option maxRecDepth 100000 in
set_option maxHeartbeats 1000000 in
theorem gcds_any (a : Option Addr) (len cap : Nat) (zs : List Int) (w : World) (hA : Arg w a len cap zs) :
    Calls Try.prog 5 #[.slice a len cap] w fun e w' => e = .returned (.bool true) ∧ Below w.heap.size w w' := by
  have hlent := lent_any a zs len cap w hA
  have hr := hA.reach
  have hgcd := fun a cap w' h => gcd_any a zs len cap w' hA.size (by omega) hA.fits h
  have hrgcd := fun w' h => rgcd_any a zs len cap w' hA.size (by omega) hA.fits h
  have HA : Hid (Arg w a len cap zs) := hA
  clear hA
  generalize gcdV zs = v at *
  generalize gcdB zs = f at *
  have q1 : (v == v) = true := by simp
  have q2 : (f == f) = true := by simp
  go_enter Try.func5, Try.ntmps5
  go_wp2_with (first
    | (go_at_call 16; refine hlent.mono ?_; rintro e w1 ⟨g, rfl, hlend, hbel⟩)
    | (go_at_call 20; refine (hgcd _ _ _ hlend.at).mono ?_; rintro e w2 ⟨n2, rfl, rfl⟩)
    | (go_at_call 21; refine (hrgcd _ (HA.out.lies.below (bdrew hbel n2))).mono ?_; rintro e w' ⟨rfl, rfl⟩)
    | (go_at_call 15; refine (awake_any _).mono ?_; rintro e w3 ⟨rfl, hbel3⟩)
    | (go_at_call 19; refine (kept_any g a zs len cap w.heap.size _ (hlend.below ((bdrew (Below.refl _ _) n2).trans hbel3)) (HA.out.below ((bdrew hbel n2).trans (hbel3.mono hbel.size)))).mono ?_; rintro e w4 ⟨n4, rfl, rfl⟩))
  go_ret
  exact ⟨rfl, bdrew ((bdrew hbel n2).trans (hbel3.mono hbel.size)) n4⟩
end Go.Proofs.Ytpaemaenefjajaa
