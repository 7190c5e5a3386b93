/- The document's Scale (pianolaref02) of whatever it is handed. -/
import Derived.Test.YtgjeihdibcjjcabFRefScale
namespace Go.Proofs.Ytgjeihdibcjjcab
open Go.ChangeShapes Go.WideShapes Go.ChangeAt Go.RowKit

set_option maxRecDepth 100000 in
set_option maxHeartbeats 1000000 in
theorem rscale_nil (a : Option Addr) (cap : Nat) (w : World) :
    Calls Try.prog 19 #[.slice a 0 cap] w (RScEnd w []) := by
  have hv := rall_any a [] 0 cap w rfl (by decide) (fun k => by simp [nthN, nthD]) (.inl rfl)
  have hlc : ∀ W, Calls Try.prog 39 #[.slice none 0 0] W (Answers W 1 true) := fun W => rlcm_any none [] 0 0 W rfl (by decide) inR0 (Or.inl rfl)
  rw [show allB [] = true from rfl] at hv
  go_enter Try.func19, Try.ntmps19
  go_wp2_with (go_at_call 38; refine hv.mono ?_; rintro e w1 ⟨rfl, hb1⟩)
  clear hv
  go_loopg [5, 6] 0 (fun _ d i wr => d = .slice none 0 0 ∧ i = .int .i64 0 ∧ wr = w1)
  case atStart => exact ⟨rfl, rfl, rfl⟩
  case round =>
    obtain ⟨rfl, rfl, rfl⟩ := hrel
    go_wp2_with (go_at_call 39; refine (hlc _).mono ?_; rintro e w2 ⟨rfl, hb2⟩)
    have B2 := hb1.trans (hb2.mono hb1.size)
    clear hb1 hb2 hlc
    go_loopg [9, 10] 0 (fun _ d i wr => d = .slice none 0 0 ∧ i = .int .i64 0 ∧ wr = w2)
    case atStart => exact ⟨rfl, rfl, rfl⟩
    case round =>
      obtain ⟨rfl, rfl, rfl⟩ := hrel
      go_wp2
      refine bodyPost_ret (v := .tuple #[.int .i64 1, .slice none 0 0, .int .i64 0]) (by simp [results, Try.results19, go_sem]) rfl ⟨B2, _, rfl, ?_⟩
      exact World.ownsRow_nil _ _ _ _

theorem rscale_any (a : Option Addr) (fs : List (Int × Int)) (len cap : Nat) (w : World) (hl : fs.length = len) (hr : len * 16 ≤ 140737488351232) (hz : InRP fs) (h : AtP w a fs) :
    Calls Try.prog 19 #[.slice a len cap] w (RScEnd w fs) := by
  cases hB : allB fs
  · exact rscale_no a fs len cap w hl (by omega) hz h hB
  · by_cases h0 : fs = []
    · subst h0
      subst hl
      exact rscale_nil a cap w
    · exact rscale_yes a fs len cap w hl hr hz h hB h0
end Go.Proofs.Ytgjeihdibcjjcab
