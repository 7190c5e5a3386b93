/- The statement FracMuls. -/
import Derived.Test.YtcklodmhlhjipaaFRefMulB
import Derived.Test.YtcklodmhlhjipaaFrKeep
import Derived.Test.YtcklodmhlhjipaaFrAwake
namespace Go.Proofs.Ytcklodmhlhjipaa
open Go.ChangeShapes Go.WideShapes Go.ChangeAt Go.RowKit

set_option maxRecDepth 100000 in
set_option maxHeartbeats 1000000 in
theorem rmulF_nil (a : Option Addr) (cap : Nat) (w : World) :
    Calls Try.prog 16 #[.slice a 0 cap] w fun e w' => e = .returned (.tuple #[.agg #[.int .i64 1, .int .i64 1], .int .i64 0]) ∧ Below w.heap.size w w' := by
  have hv := rall_any a [] 0 cap (w.alloc (.cells #[.int .i64 0, .int .i64 0] 23)) rfl (by decide) (fun k => by simp [nthN, nthD]) (.inl rfl)
  have K0 := var2_new w (.int .i64 0) (.int .i64 0) 23
  have B0 : Below w.heap.size w (w.alloc (.cells #[.int .i64 0, .int .i64 0] 23)) := (Below.refl _ _).alloc (Nat.le_refl _) _
  rw [show allB [] = true from rfl] at hv
  go_enter Try.func16, Try.ntmps16
  go_wp2_with (go_at_call 38; refine hv.mono ?_; rintro e w1 ⟨rfl, hb1⟩)
  have K1 := (K0.later hb1 K0.lt).alloc (.cells #[.int .i64 1, .int .i64 1] 23)
  have K2 := var2_new w1 (.int .i64 1) (.int .i64 1) 23
  have B1 := B0.trans (hb1.mono B0.size)
  have B2 : Below w.heap.size w (w1.alloc (.cells #[.int .i64 1, .int .i64 1] 23)) := B1.alloc B1.size _
  clear hv K0 B0 hb1 B1
  generalize w1.alloc (.cells #[.int .i64 1, .int .i64 1] 23) = W at *
  go_loopg [5] 0 (fun _ i wr => i = .int .i64 0 ∧ wr = W)
  case atStart => exact ⟨rfl, rfl⟩
  case round =>
    obtain ⟨rfl, rfl⟩ := hrel
    have r0 := K1.c0
    have r1 := K1.c1
    have f0 := K1.f0
    have f1 := K1.f1
    have d0 := K2.c0
    have d1 := K2.c1
    go_wp2
    refine bodyPost_ret (v := .tuple #[.agg #[.int .i64 1, .int .i64 1], .int .i64 0]) (by simp [results, Try.results16, go_sem, r0, r1]) rfl ⟨rfl, ?_⟩
    exact (B2.setCell (by simp) _).setCell (by simp) _

set_option maxRecDepth 100000 in
set_option maxHeartbeats 1000000 in
theorem rmulF_no (a : Option Addr) (fs : List (Int × Int)) (len cap : Nat) (w : World) (hl : fs.length = len) (hm : len ≤ 4611686018427387904) (hz : InRP fs) (h : AtP w a fs) (hall : allB fs = false) :
    Calls Try.prog 16 #[.slice a len cap] w fun e w' => e = .returned (.tuple #[.agg #[.int .i64 0, .int .i64 0], .int .i64 1]) ∧ Below w.heap.size w w' := by
  have hv := rall_any a fs len cap (w.alloc (.cells #[.int .i64 0, .int .i64 0] 23)) hl hm hz (h.below ((Below.refl _ _).alloc (Nat.le_refl _) _))
  have K0 := var2_new w (.int .i64 0) (.int .i64 0) 23
  have B0 : Below w.heap.size w (w.alloc (.cells #[.int .i64 0, .int .i64 0] 23)) := (Below.refl _ _).alloc (Nat.le_refl _) _
  rw [hall] at hv
  clear hall h hz
  go_enter Try.func16, Try.ntmps16
  go_wp2_with (go_at_call 38; refine hv.mono ?_; rintro e w1 ⟨rfl, hb1⟩; have K1 := K0.later hb1 K0.lt; have r0 := K1.c0; have r1 := K1.c1; have f0 := K1.f0; have f1 := K1.f1)
  refine bodyPost_ret (v := .tuple #[.agg #[.int .i64 0, .int .i64 0], .int .i64 1]) (by simp [results, Try.results16, go_sem, r0, r1]) rfl ⟨rfl, ?_⟩
  have B1 := B0.trans (hb1.mono B0.size)
  exact (B1.setCell (by simp) _).setCell (by simp) _

theorem rmulF_any (a : Option Addr) (fs : List (Int × Int)) (len cap : Nat) (w : World) (hl : fs.length = len) (hm : len ≤ 4611686018427387904) (hz : InRP fs) (h : AtP w a fs) :
    Calls Try.prog 16 #[.slice a len cap] w (MulEnd w fs) := by
  cases hB : allB fs
  · have K : mulN fs = 0 ∧ mulD fs = 0 ∧ mulE fs = 1 := ⟨by unfold mulN; rw [hB]; rfl, by unfold mulD; rw [hB]; rfl, by unfold mulE; rw [hB]; rfl⟩
    refine (rmulF_no a fs len cap w hl hm hz h hB).mono fun e w' h => ⟨?_, h.2⟩
    rw [K.1, K.2.1, K.2.2]; exact h.1
  · have K : mulN fs = prN fs ∧ mulD fs = prD fs ∧ mulE fs = prE fs := ⟨by unfold mulN; rw [hB]; rfl, by unfold mulD; rw [hB]; rfl, by unfold mulE; rw [hB]; rfl⟩
    by_cases h0 : fs = []
    · subst h0
      subst hl
      exact (rmulF_nil a cap w).mono fun e w' h => ⟨h.1, h.2⟩
    · refine (rmulF_yes a fs len cap w hl hm hz h hB h0).mono fun e w' h => ⟨?_, h.2⟩
      rw [K.1, K.2.1, K.2.2]; exact h.1

set_option maxRecDepth 100000 in
set_option maxHeartbeats 1000000 in
theorem muls_any (a : Option Addr) (len cap : Nat) (fs : List (Int × Int)) (w : World) (hA : ArgP w a len cap fs) :
    Calls Try.prog 4 #[.slice a len cap] w fun e w' => e = .returned (.bool true) ∧ Below w.heap.size w w' := by
  have HA : Hid (ArgP w a len cap fs) := hA
  have hlent := lentP_any a fs len cap w hA
  have hr : len ≤ 4611686018427387904 := by have := hA.reach; omega
  have h1 : Hid (∀ g capg w, AtP w (some ⟨g, 0, none⟩) fs → Calls Try.prog 15 #[.slice (some ⟨g, 0, none⟩) len capg] w fun e w' => e = .returned (.tuple #[.agg #[.int .i64 (mulN fs), .int .i64 (mulD fs)], .int .i64 (mulE fs)]) ∧ Below w.heap.size w w') := fun g capg w h => mul_frac _ fs len capg w hA.size hr hA.fits h
  have h2 : Hid (∀ W, AtP W a fs → Calls Try.prog 16 #[.slice a len cap] W fun e w' => e = .returned (.tuple #[.agg #[.int .i64 (mulN fs), .int .i64 (mulD fs)], .int .i64 (mulE fs)]) ∧ Below W.heap.size W w') := fun W h => rmulF_any a fs len cap W hA.size hr hA.fits h
  clear hA hr
  generalize mulN fs = x at *
  generalize mulD fs = y at *
  generalize mulE fs = z at *
  have q1 : (x == x) = true := by simp
  have q2 : (y == y) = true := by simp
  have q3 : (z == z) = true := by simp
  go_enter Try.func4, Try.ntmps4
  go_wp2_with (first
    | (go_at_call 14; refine hlent.mono ?_; rintro e w0 ⟨g, capg, rfl, hcg, hL, B0⟩)
    | (go_at_call 15; refine (h1.out _ _ _ hL.at).mono ?_; rintro e w1 ⟨rfl, hb1⟩; have B1' := B0.trans (hb1.mono B0.size); have B1 := B1'.alloc B1'.size (.cells #[.int .i64 x, .int .i64 y] 23); have U1 := var2_new w1 (.int .i64 x) (.int .i64 y) 23; have L1 := (hL.below hb1).below ((Below.refl w1.heap.size w1).alloc (Nat.le_refl _) (.cells #[.int .i64 x, .int .i64 y] 23)))
    | (go_at_call 16; refine (h2.out _ (HA.out.below B1).lies).mono ?_; rintro e w2 ⟨rfl, hb2⟩; have B2' := B1.trans (hb2.mono B1.size); have B2 := B2'.alloc B2'.size (.cells #[.int .i64 x, .int .i64 y] 23); have U2 := (U1.later hb2 U1.lt).alloc (.cells #[.int .i64 x, .int .i64 y] 23); have T2 := var2_new w2 (.int .i64 x) (.int .i64 y) 23; have L2 := (L1.below hb2).below ((Below.refl w2.heap.size w2).alloc (Nat.le_refl _) (.cells #[.int .i64 x, .int .i64 y] 23)))
    | (go_at_call 12; refine (awake2 _).mono ?_; rintro e w4 ⟨rfl, hb4⟩; have B4 := B2.trans (hb4.mono B2.size); have U4 := U2.later hb4 U2.lt; have T4 := T2.later hb4 T2.lt; have u0 := U4.c0; have u1 := U4.c1; have t0 := T4.c0; have t1 := T4.c1; have L4 := L2.below hb4)
    | (go_at_call 17; refine (keptP_any g capg a fs len cap _ _ L4 (HA.out.below B4) hcg).mono ?_; rintro e w5 ⟨n5, rfl, rfl⟩))
  go_ret
  exact ⟨rfl, bdrew B4 n5⟩
end Go.Proofs.Ytcklodmhlhjipaa
