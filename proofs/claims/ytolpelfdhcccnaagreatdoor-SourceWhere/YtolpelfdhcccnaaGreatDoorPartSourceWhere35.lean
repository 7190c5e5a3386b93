/- Texts of one chain, laid one behind the other. -/
import Derived.Test.YtolpelfdhcccnaaGreatDoorPartSourceWhere34
import Derived.Test.YtolpelfdhcccnaaGreatDoorPartSourceWhere33
import Derived.Test.YtolpelfdhcccnaaGreatDoorPartSourceWhere4
import Derived.Deep.Cut
namespace Go.Proofs.YtolpelfdhcccnaaGreatDoor
open Go.ChangeShapes Go.WideShapes Go.ChangeAt Go.RowKit
/-- A sketch of so many items as it has. -/
def OwnK (nm : List UInt8) (K : List Itm) (u : World) (v : Value) : Prop := ∃ a c M, v = .agg #[.string (str nm), .slice a M.length c] ∧ M.map Prod.fst = K ∧ ItR u a M ∧ ItO u M
theorem OwnK.later {nm : List UInt8} {K : List Itm} {u u' : World} {v : Value} (h : OwnK nm K u v) (hb : Below u.heap.size u u') : OwnK nm K u' v := by
  obtain ⟨a, c, M, h1, h2, h3, h4⟩ := h
  exact ⟨a, c, M, h1, h2, h3.below hb, h4.below hb⟩
theorem build_zero {nm : List UInt8} {K : List Itm} (h : (buildS nm K).2.1 = 0) : buildS nm K = (lookS nm K, 0, 0) ∧ (firstF (lookS nm K)).code = 0 := by
  unfold buildS at h ⊢
  by_cases h1 : 0 ≤ idxG K 0
  · rw [if_pos h1] at h; exact absurd (show (1 : Int) = 0 from h) (by decide)
  · rw [if_neg h1] at h ⊢
    by_cases h2 : (firstF (lookS nm K)).code ≠ 0
    · rw [if_pos h2] at h; exact absurd h h2
    · rw [if_neg h2]; exact ⟨rfl, Decidable.not_not.1 h2⟩
theorem grG_len {w : World} {a1 a2 a3 a4 : Option Addr} {g : GG} (h : GrG w a1 a2 a3 a4 g) : (∀ x ∈ g.actors, x.params.length ≤ 4611686018427387904) ∧ ∀ x ∈ g.edges, x.start.length ≤ 4611686018427387904 := by
  have q := h.nums
  exact ⟨fun x hx => by have := (q.1 x hx).2.2; omega, fun x hx => by have := (q.2 x hx).2; omega⟩
end Go.Proofs.YtolpelfdhcccnaaGreatDoor
