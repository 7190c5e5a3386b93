/- Texts of one chain, laid one behind the other. -/
import Derived.Test.YtdgngmhapehldaaPartStuckFree16
import Derived.Test.YtdgngmhapehldaaPartStuckFree8
import Derived.Test.YtdgngmhapehldaaPartStuckFree13
import Derived.Laws.AppendOwnNone
namespace Go.Proofs.Ytdgngmhapehldaa
open Go.ChangeShapes Go.WideShapes Go.ChangeAt Go.RowKit
/-- New, of a net that came in, in a later world. -/
theorem new_yes (n : NN) (a : Option Addr) (c : Nat) (w : World) (h : ArgN w a c n) (hc : checkN n = 0) (U : World) (hb : Below w.heap.size w U) : Calls Try.prog 14 #[.agg #[.int .i64 n.nodes, .slice a n.arcs.length c]] U fun e w' => ∃ K E, e = .returned (.tuple #[.pointer (some ⟨K, 0, none⟩), .int .i64 0]) ∧ StE U.heap.size E w' K n (startT n) (List.replicate n.nodes.toNat 0) ∧ Below U.heap.size U w' := by
  refine (new_any n a c U (h.lies.below hb) (by have := h.room; omega) h.none).mono ?_
  intro e w' hh
  unfold NewE at hh
  rw [if_pos hc] at hh
  exact hh
theorem new_no (n : NN) (a : Option Addr) (c : Nat) (w : World) (h : ArgN w a c n) (hc : ¬ checkN n = 0) (U : World) (hb : Below w.heap.size w U) : Calls Try.prog 14 #[.agg #[.int .i64 n.nodes, .slice a n.arcs.length c]] U fun e w' => e = .returned (.tuple #[.pointer none, .int .i64 (checkN n)]) ∧ Below U.heap.size U w' := by
  refine (new_any n a c U (h.lies.below hb) (by have := h.room; omega) h.none).mono ?_
  intro e w' hh
  unfold NewE at hh
  rw [if_neg hc] at hh
  exact hh
end Go.Proofs.Ytdgngmhapehldaa
