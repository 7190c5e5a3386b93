/- The document's All, two and Mul (pianolaref02). -/
import Derived.Test.YtgjeihdibcjjcabFrRows
import Derived.Test.YtgjeihdibcjjcabFrRef
import Derived.Test.YtgjeihdibcjjcabRefMul
import Derived.Test.YtgjeihdibcjjcabFr3
namespace Go.Proofs.Ytgjeihdibcjjcab
open Go.ChangeShapes Go.WideShapes Go.ChangeAt Go.RowKit

set_option maxRecDepth 100000 in
set_option maxHeartbeats 1000000 in
theorem rall_any (a : Option Addr) (fs : List (Int × Int)) (len cap : Nat) (w : World) (hl : fs.length = len) (hm : len ≤ 4611686018427387904) (hz : InRP fs) (h : AtP w a fs) :
    Calls Try.prog 38 #[.slice a len cap] w fun e w' => e = .returned (.bool (allB fs)) ∧ Below w.heap.size w w' := by
  rcases h with h | ⟨b, off, rfl, hc⟩
  · subst h
    subst hl
    go_enter Try.func38, Try.ntmps38
    go_wp2
    go_loop [3] (fun i => i = .int .i64 0) (fun _ => 0)
    case atStart => exact rfl
    case round =>
      subst hrel
      go_wp2
      go_ret
      exact ⟨rfl, Below.refl _ _⟩
  · have HC : Hid (∀ k, k < fs.length → w.cell? ⟨b, off + k * 2, none⟩ = some (.int .i64 (nthN fs k)) ∧ w.cell? ⟨b, off + k * 2 + 1, none⟩ = some (.int .i64 (nthD fs k))) := hc
    clear hc
    go_enter Try.func38, Try.ntmps38
    go_wp2
    go_loopg [3] len (fun gk i wr => ∃ k : Nat, k ≤ len ∧ gk = len - k ∧ i = .int .i64 k ∧ allB (fs.drop k) = allB fs ∧ Below w.heap.size w wr)
    case atStart => exact ⟨0, Nat.zero_le _, rfl, rfl, rfl, Below.refl _ _⟩
    case round =>
      obtain ⟨k, hk, rfl, rfl, hs, hbel⟩ := hrel
      have HS : Hid (allB (fs.drop k) = allB fs) := hs
      clear hs
      by_cases hlt : k < len
      · obtain ⟨q1, q2⟩ := HC.out k (by omega)
        have hlt' := block_lt_of_cell q1
        have hck1 : wr.cell? ⟨b, off + k * 2, none⟩ = some (.int .i64 (nthN fs k)) := by rw [hbel.cell (p := ⟨b, off + k * 2, none⟩) hlt']; exact q1
        have hck2 : wr.cell? ⟨b, off + k * 2 + 1, none⟩ = some (.int .i64 (nthD fs k)) := by rw [hbel.cell (p := ⟨b, off + k * 2 + 1, none⟩) hlt']; exact q2
        obtain ⟨z1, z2⟩ := hz k
        have HD : Hid (fs.drop k = (nthN fs k, nthD fs k) :: fs.drop (k + 1)) := dropP (by omega)
        have hv := fun W => rvalid_any (nthN fs k) (nthD fs k) W z1 z2
        clear q1 q2
        generalize nthN fs k = x at *
        generalize nthD fs k = y at *
        cases hB : validB x y
        · have HB : Hid (validB x y = false) := hB
          rw [hB] at hv
          clear hB
          go_wp2_with (go_at_call 53; refine (hv _).mono ?_; rintro e w1 ⟨rfl, hb1⟩)
          go_ret
          have e : allB fs = false := by rw [← HS.out, HD.out, allB, HB.out]; rfl
          exact ⟨by rw [e]; rfl, hbel.trans (hb1.mono hbel.size)⟩
        · have HB : Hid (validB x y = true) := hB
          rw [hB] at hv
          clear hB
          go_wp2_with (go_at_call 53; refine (hv _).mono ?_; rintro e w1 ⟨rfl, hb1⟩)
          go_roundg (len - (k + 1))
          case measure => omega
          case rel => exact ⟨k + 1, by omega, rfl, by go_num, by rw [← HS.out, HD.out, allB, HB.out]; rfl, hbel.trans (hb1.mono hbel.size)⟩
      · have HD : Hid (fs.drop k = []) := dropP_end (by omega)
        go_wp2
        go_ret
        have e : allB fs = true := by rw [← HS.out, HD.out]; rfl
        exact ⟨by rw [e]; rfl, hbel⟩
theorem nat_wraps {g : Nat} (h : g ≤ 9223372036854775807) : IntKind.i64.wrap (g : Int) = (g : Int) ∧ wrap64 (g : Int) = (g : Int) := ⟨by rw [IntKind.wrap_i64]; omega, by unfold wrap64; omega⟩
theorem u64_wraps {d : Int} (h : 0 ≤ d ∧ d ≤ 9223372036854775807) : IntKind.u64.wrap d = d := by rw [IntKind.wrap_u64]; omega

end Go.Proofs.Ytgjeihdibcjjcab
