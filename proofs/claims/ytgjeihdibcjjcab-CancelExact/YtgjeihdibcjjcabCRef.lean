/- The document's Wrong and Equal of chapter 3 (pianolaref03). -/
import Derived.Test.YtgjeihdibcjjcabC4
import Derived.Test.YtgjeihdibcjjcabBigProd
import Derived.Test.YtgjeihdibcjjcabBigWh
namespace Go.Proofs.Ytgjeihdibcjjcab
open Go.ChangeShapes Go.WideShapes Go.ChangeAt Go.RowKit

theorem cmpI_zero {x y : Int} (h : cmpI x y = 0) : x = y := by
  unfold cmpI at h
  split at h
  · cases h
  · split at h
    · cases h
    · omega
theorem prodI_up (ns : List Nat) : prodI (up ns) = (prodN' ns : Int) := by
  induction ns with
  | nil => rfl
  | cons n ns ih => show (n : Int) * prodI (up ns) = ((n * prodN' ns : Nat) : Int); rw [ih, Int.natCast_mul]
theorem prodI_nats {zs : List Int} (h : posB zs = true) : prodI zs = (prodN' (nats zs) : Int) := by
  have := prodI_up (nats zs)
  rw [up_nats h] at this
  exact this

end Go.Proofs.Ytgjeihdibcjjcab
