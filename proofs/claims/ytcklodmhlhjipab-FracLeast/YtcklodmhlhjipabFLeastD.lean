/- The statement FracLeast: of no fractions, and the whole. -/
import Derived.Test.YtcklodmhlhjipabFLeastC
namespace Go.Proofs.Ytcklodmhlhjipab
open Go.ChangeShapes Go.WideShapes Go.ChangeAt Go.RowKit

set_option maxRecDepth 100000 in
set_option maxHeartbeats 2000000 in
theorem least_nil (a : Option Addr) (cap : Nat) (m : Int) (w : World) (hA : ArgP w a 0 cap []) (hm : -9223372036854775808 ≤ m ∧ m ≤ 9223372036854775807) :
    Calls Try.prog 7 #[.slice a 0 cap, .int .i64 m] w fun e w' => e = .returned (.bool true) ∧ Below w.heap.size w w' := by
  have hlent := lentP_any a [] 0 cap w hA
  have hsc : ∀ g capg w', AtP w' (some ⟨g, 0, none⟩) [] → Calls Try.prog 19 #[.slice (some ⟨g, 0, none⟩) 0 capg] w' fun e w'' => Below w'.heap.size w' w'' ∧ ∃ a cap, e = .returned (.tuple #[.int .i64 1, .slice a 0 cap, .int .i64 0]) := fun g capg w' h => by
    refine (scale_frac _ [] 0 capg w' hA.size hA.reach hA.fits h).mono ?_
    rintro e w'' ⟨hb, x, n, c, rfl, hn, -⟩
    obtain rfl : 0 = n := hn
    exact ⟨hb, x, c, rfl⟩
  have hm0 : m.tmod 1 = 0 := Int.tmod_one m
  have hq : (m.tmod 1 != 0) = false := by rw [hm0]; rfl
  have hm2 : wrap64 (m.tmod 1) = m.tmod 1 := (rem_facts m 1 (by omega) hm.1 hm.2).1
  clear hA hm hm0
  go_enter Try.func7, Try.ntmps7
  go_wp2_with (first
    | (go_at_call 15; refine hlent.mono ?_; rintro e w1 ⟨g, capg, rfl, hcg, hL, hb1⟩)
    | (go_at_call 19; refine (hsc _ _ _ hL.at).mono ?_; rintro e w2 ⟨hb2, x, c, rfl⟩; have B2 := hb1.trans (hb2.mono hb1.size)))
  clear hb1 hb2 hsc hlent
  generalize decide (0 < m) = t
  go_loopg [8, 9] 0 (fun _ s i wr => s = .bool t ∧ i = .int .i64 0 ∧ wr = w2)
  case atStart => exact ⟨rfl, rfl, rfl⟩
  case round =>
    obtain ⟨rfl, rfl, rfl⟩ := hrel
    cases t
    · go_wp2
      go_loopg [10] 0 (fun _ i wr' => i = .int .i64 0 ∧ wr' = wr)
      case atStart => exact ⟨rfl, rfl⟩
      case round =>
        obtain ⟨rfl, rfl⟩ := hrel
        go_wp2_with (go_at_call 10; refine (awake2 _).mono ?_; rintro e w3 ⟨rfl, hb3⟩)
        go_ret
        exact ⟨rfl, B2.trans (hb3.mono B2.size)⟩
    · go_wp2
      go_loopg [10] 0 (fun _ i wr' => i = .int .i64 0 ∧ wr' = wr)
      case atStart => exact ⟨rfl, rfl⟩
      case round =>
        obtain ⟨rfl, rfl⟩ := hrel
        go_wp2_with (go_at_call 10; refine (awake2 _).mono ?_; rintro e w3 ⟨rfl, hb3⟩)
        go_ret
        exact ⟨rfl, B2.trans (hb3.mono B2.size)⟩

theorem least_any (a : Option Addr) (len cap : Nat) (fs : List (Int × Int)) (m : Int) (w : World) (hA : ArgP w a len cap fs) (hm : -9223372036854775808 ≤ m ∧ m ≤ 9223372036854775807) :
    Calls Try.prog 7 #[.slice a len cap, .int .i64 m] w fun e w' => e = .returned (.bool true) ∧ Below w.heap.size w w' := by
  cases h : allB fs
  · exact least_arg a len cap fs m w hA hm h
  · cases h2 : lcOK fs with
    | none => exact least_big a len cap fs m w hA hm h h2
    | some K =>
      by_cases h0 : fs = []
      · subst h0
        obtain rfl : 0 = len := hA.size
        exact least_nil a cap m w hA hm
      · exact least_ok a len cap fs m K w hA hm h h2 h0
end Go.Proofs.Ytcklodmhlhjipab
