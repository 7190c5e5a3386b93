/- The statement FracLeast: what is plain of it, and the ways that end ahead of the numbers. -/
import Derived.Test.YtcklodmhlhjipabFrKeep
import Derived.Test.YtcklodmhlhjipabFrBig
namespace Go.Proofs.Ytcklodmhlhjipab
open Go.ChangeShapes Go.WideShapes Go.ChangeAt Go.RowKit

/-- Do all that stand below divide m? -/
def divB (m : Int) : List (Int × Int) → Bool
  | [] => true
  | f :: fs => decide (m.tmod f.2 = 0) && divB m fs

theorem scE_no {fs : List (Int × Int)} (h : allB fs = false) : scK fs = 0 ∧ scE fs = 1 ∧ scR fs = [] := ⟨by unfold scK scOK; rw [h]; rfl, by unfold scE; rw [h]; rfl, by unfold scR scOK; rw [h]; rfl⟩
theorem scE_big {fs : List (Int × Int)} (h : allB fs = true) (h2 : lcOK fs = none) : scK fs = 0 ∧ scE fs = 4 ∧ scR fs = [] := ⟨by unfold scK scOK; rw [h, if_pos rfl, h2]; rfl, by unfold scE scOK; rw [h, if_pos rfl, if_pos rfl, h2]; rfl, by unfold scR scOK; rw [h, if_pos rfl, h2]⟩
theorem scE_ok {fs : List (Int × Int)} {K : Nat} (h : allB fs = true) (h2 : lcOK fs = some K) : scK fs = (K : Int) ∧ scE fs = 0 ∧ scR fs = scL K fs := ⟨by unfold scK scOK; rw [h, if_pos rfl, h2]; rfl, by unfold scE scOK; rw [h, if_pos rfl, if_pos rfl, h2]; rfl, by unfold scR scOK; rw [h, if_pos rfl, h2]⟩

set_option maxRecDepth 100000 in
set_option maxHeartbeats 2000000 in
/-- One of them is not in lowest terms. -/
theorem least_arg (a : Option Addr) (len cap : Nat) (fs : List (Int × Int)) (m : Int) (w : World) (hA : ArgP w a len cap fs) (hm : -9223372036854775808 ≤ m ∧ m ≤ 9223372036854775807) (hall : allB fs = false) :
    Calls Try.prog 7 #[.slice a len cap, .int .i64 m] w fun e w' => e = .returned (.bool true) ∧ Below w.heap.size w w' := by
  have hlent := lentP_any a fs len cap w hA
  have hr := hA.reach
  have hsc : ∀ g capg w', AtP w' (some ⟨g, 0, none⟩) fs → Calls Try.prog 19 #[.slice (some ⟨g, 0, none⟩) len capg] w' fun e w'' => Below w'.heap.size w' w'' ∧ ∃ a cap, e = .returned (.tuple #[.int .i64 0, .slice a 0 cap, .int .i64 1]) := fun g capg w' h => by
    refine (scale_frac _ fs len capg w' hA.size hA.reach hA.fits h).mono ?_
    rintro e w'' ⟨hb, x, n, c, rfl, hn, -⟩
    obtain ⟨k1, k2, k3⟩ := scE_no hall
    rw [k3] at hn
    obtain rfl : 0 = n := hn
    rw [k1, k2]
    exact ⟨hb, x, c, rfl⟩
  obtain ⟨hl, -, -, hz, hat, -⟩ := hA
  have h0 : fs ≠ [] := by rintro rfl; cases hall
  obtain ⟨b, off, rfl, hc⟩ := hat.resolve_left h0
  have HC : Hid (∀ k, k < fs.length → w.cell? ⟨b, off + k * 2, none⟩ = some (.int .i64 (nthN fs k)) ∧ w.cell? ⟨b, off + k * 2 + 1, none⟩ = some (.int .i64 (nthD fs k))) := hc
  have HB : Hid (allB fs = false) := hall
  clear hc hat hall h0
  go_enter Try.func7, Try.ntmps7
  go_wp2_with (first
    | (go_at_call 15; refine hlent.mono ?_; rintro e w1 ⟨g, capg, rfl, hcg, hL, hb1⟩)
    | (go_at_call 19; refine (hsc _ _ _ hL.at).mono ?_; rintro e w2 ⟨hb2, x, c, rfl⟩; have B2 := hb1.trans (hb2.mono hb1.size)))
  clear hb1 hb2 hsc hlent
  go_loopg [8, 9] len (fun gk s i wr => ∃ (k : Nat) (t : Bool), k ≤ len ∧ gk = len - k ∧ i = .int .i64 k ∧ s = .bool t ∧ allB (fs.drop k) = allB fs ∧ Below w.heap.size w wr)
  case atStart => exact ⟨0, _, Nat.zero_le _, rfl, rfl, rfl, rfl, B2⟩
  case round =>
    clear B2
    obtain ⟨k, t, hk, rfl, rfl, rfl, hs, hbel⟩ := hrel
    have HS : Hid (allB (fs.drop k) = allB fs) := hs
    clear hs
    by_cases hlt : k < len
    · obtain ⟨q1, q2⟩ := HC.out k (by omega)
      have hlt' := block_lt_of_cell q1
      have hck1 : wr.cell? ⟨b, off + k * 2, none⟩ = some (.int .i64 (nthN fs k)) := by rw [hbel.cell (p := ⟨b, off + k * 2, none⟩) hlt']; exact q1
      have hck2 : wr.cell? ⟨b, off + k * 2 + 1, none⟩ = some (.int .i64 (nthD fs k)) := by rw [hbel.cell (p := ⟨b, off + k * 2 + 1, none⟩) hlt']; exact q2
      obtain ⟨z1, z2⟩ := hz k
      have HD : Hid (fs.drop k = (nthN fs k, nthD fs k) :: fs.drop (k + 1)) := dropP (by omega)
      have hv := fun W => valid_any (nthN fs k) (nthD fs k) W z1 z2
      clear q1 q2
      generalize nthN fs k = x at *
      generalize nthD fs k = y at *
      cases hB : validB x y
      · rw [hB] at hv
        clear hB
        go_wp2_with (first
          | (go_at_call 16; refine (hv _).mono ?_; rintro e w3 ⟨rfl, hb3⟩; have B3 := hbel.trans (hb3.mono hbel.size))
          | (go_at_call 10; refine (awake2 _).mono ?_; rintro e w4 ⟨rfl, hb4⟩))
        go_ret
        exact ⟨rfl, B3.trans (hb4.mono B3.size)⟩
      · have HV : Hid (validB x y = true) := hB
        rw [hB] at hv
        have hy := valid_pos' hB
        have hm1 := rem_facts m y (by omega) hm.1 hm.2
        have hm2 : wrap64 (m.tmod y) = m.tmod y := hm1.1
        have hm3 : IntKind.i64.wrap (m.tmod y) = m.tmod y := by rw [IntKind.wrap_i64]; have := hm1.2.1; omega
        have hy0 : ¬ y = 0 := by omega
        clear hB hm1
        have hck2' : ∀ w3, Below wr.heap.size wr w3 → w3.cell? ⟨b, off + k * 2 + 1, none⟩ = some (.int .i64 y) := fun w3 h3 => by rw [h3.cell (p := ⟨b, off + k * 2 + 1, none⟩) (Nat.lt_of_lt_of_le hlt' hbel.size)]; exact hck2
        by_cases hr0 : m.tmod y = 0
        · have hq : (m.tmod y != 0) = false := by simpa using hr0
          clear hr0
          go_wp2_with (go_at_call 16; refine (hv _).mono ?_; rintro e w3 ⟨rfl, hb3⟩; have hc3 := hck2' w3 hb3)
          go_roundg (len - (k + 1))
          case measure => omega
          case rel => exact ⟨k + 1, t, by omega, rfl, by go_num, rfl, by rw [← HS.out, HD.out, allB, HV.out]; rfl, hbel.trans (hb3.mono hbel.size)⟩
        · have hq : (m.tmod y != 0) = true := by simpa using hr0
          clear hr0
          go_wp2_with (go_at_call 16; refine (hv _).mono ?_; rintro e w3 ⟨rfl, hb3⟩; have hc3 := hck2' w3 hb3)
          go_roundg (len - (k + 1))
          case measure => omega
          case rel => exact ⟨k + 1, false, by omega, rfl, by go_num, rfl, by rw [← HS.out, HD.out, allB, HV.out]; rfl, hbel.trans (hb3.mono hbel.size)⟩
    · exfalso
      have := HS.out
      rw [dropP_end (by omega), HB.out] at this
      cases this
end Go.Proofs.Ytcklodmhlhjipab
