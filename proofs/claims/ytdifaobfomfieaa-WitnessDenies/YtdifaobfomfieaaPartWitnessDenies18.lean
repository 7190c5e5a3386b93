/- Texts of one chain, laid one behind the other. -/
import Derived.Test.YtdifaobfomfieaaPartWitnessDenies17
import Derived.Test.YtdifaobfomfieaaPartWitnessDenies9
import Derived.Test.YtdifaobfomfieaaPartWitnessDenies14
import Derived.Laws.AppendOwnNone
namespace Go.Proofs.Ytdifaobfomfieaa
open Go.ChangeShapes Go.WideShapes Go.ChangeAt Go.RowKit
/-- Rows of two answers are the same. -/
theorem sameN (U : World) (a1 a2 : Option Addr) (zs : List Int) (c1 c2 : Nat) (hl : zs.length ≤ 4611686018427387904) (h1 : At U a1 zs) (h2 : At U a2 zs) : Calls Try.prog 11 #[.slice a1 zs.length c1, .slice a2 zs.length c2] U fun e w' => e = .returned (.bool true) ∧ Below U.heap.size U w' :=
  (same_any a1 a2 zs zs.length c1 c2 U rfl hl h1 h2).mono fun e w' hh => by
    obtain ⟨n, h1, rfl⟩ := hh
    exact ⟨h1, drewB (Below.refl _ _) n⟩
theorem drewF (w : World) (q : Nat) : Below w.heap.size w (w.drewN q) := ⟨rfl, rfl, rfl, Nat.le_refl _, fun _ _ => rfl⟩
theorem AtN.lt {w : World} {a : Option Addr} {L : List NA} (h : AtN w a L) (hL : 0 < L.length) : ∀ x, a = some x → x.block < w.heap.size := by
  intro x hx
  rcases h with e | ⟨b, off, e, hc⟩
  · rw [e] at hL; exact absurd hL (Nat.lt_irrefl _)
  · rw [e] at hx
    cases hx
    exact block_lt_of_cell (hc 0 hL).1
end Go.Proofs.Ytdifaobfomfieaa
