/- Texts of one chain, laid one behind the other. -/
import Derived.Test.YtimioiaoefhabaaGreatPartPackPlaces6
import Derived.Laws.OwnMore
namespace Go.Proofs.YtimioiaoefhabaaGreat
open Go.ChangeShapes Go.WideShapes Go.ChangeAt Go.RowKit
/-- A row of these numbers with room behind it, at or above a base. -/
def CapR (base : Nat) (w : World) (a : Option Addr) (cap : Nat) (zs : List Int) : Prop := w.ownsRow base 3 1 (.slice a zs.length cap) zs.length (zs.map (Value.int .i64))
theorem owns_later {w w' : World} {base n : Nat} {v : Value} {xs : List Value} (h : w.ownsRow base 3 1 v n xs) (hb : Below w.heap.size w w') : w'.ownsRow base 3 1 v n xs := by
  refine ⟨h.1, ?_⟩
  rcases h.2 with h2 | ⟨g, cap, cur, hv, hg, hh, r⟩
  · exact .inl h2
  · refine .inr ⟨g, cap, cur, hv, hg, ?_, r⟩
    obtain ⟨hlt, -⟩ := Array.getElem?_eq_some_iff.1 hh
    rw [hb.block g hlt]; exact hh
theorem CapR.later {base : Nat} {w w' : World} {a : Option Addr} {cap : Nat} {zs : List Int} (h : CapR base w a cap zs) (hb : Below w.heap.size w w') : CapR base w' a cap zs := owns_later h hb
theorem CapR.mono {base base' : Nat} {w : World} {a : Option Addr} {cap : Nat} {zs : List Int} (h : CapR base w a cap zs) (hb : base' ≤ base) : CapR base' w a cap zs := by
  refine ⟨h.1, ?_⟩
  rcases h.2 with h2 | ⟨g, c, cur, hv, hg, r⟩
  · exact .inl h2
  · exact .inr ⟨g, c, cur, hv, Nat.le_trans hb hg, r⟩
theorem CapR.there {base : Nat} {w : World} {a : Option Addr} {cap : Nat} {zs : List Int} (h : CapR base w a cap zs) (h0 : 0 < zs.length) : ∃ g, a = some ⟨g, 0, none⟩ ∧ base ≤ g ∧ g < w.heap.size := by
  rcases h.2 with ⟨-, h2⟩ | ⟨g, c, cur, hv, hg, hh, -⟩
  · omega
  · cases hv
    exact ⟨g, rfl, hg, (Array.getElem?_eq_some_iff.1 hh).1⟩
theorem CapR.at {base : Nat} {w : World} {a : Option Addr} {cap : Nat} {zs : List Int} (h : CapR base w a cap zs) : At w a zs := by
  obtain ⟨a', cap', hv, -, hat, -⟩ := owns_at h
  cases hv
  exact hat
theorem CapR.lt {base : Nat} {w : World} {a : Option Addr} {cap : Nat} {zs : List Int} (h : CapR base w a cap zs) : ∀ x, a = some x → base ≤ x.block ∧ x.block < w.heap.size := by
  intro x hx
  rcases h.2 with ⟨hv, -⟩ | ⟨g, c, cur, hv, hg, hh, -⟩
  · subst hx; cases hv
  · subst hx; cases hv
    exact ⟨hg, (Array.getElem?_eq_some_iff.1 hh).1⟩
theorem CapR.hd {base : Nat} {w : World} {g cap k : Nat} {os R : List Int} {p : Int} (hk : os.length = k) (h : CapR base w (some ⟨g, 0, none⟩) cap (os ++ p :: R)) : w.cell? ⟨g, k, none⟩ = some (.int .i64 p) := by
  have h1 := World.ownsRow.cellAt h k (by simp; omega)
  rw [h1, List.map_append, List.getElem?_append_right (by simp; omega), List.length_map, hk, Nat.sub_self]
  rfl
theorem CapR.fz {base : Nat} {w : World} {g cap : Nat} {zs : List Int} (h : CapR base w (some ⟨g, 0, none⟩) cap zs) (k : Nat) : w.frozen? ⟨g, k, none⟩ = false := World.ownsRow.frozenAt h k
theorem CapR.set {base : Nat} {w : World} {g cap k : Nat} {os R : List Int} {p : Int} (x : Int) (hk : os.length = k) (h : CapR base w (some ⟨g, 0, none⟩) cap (os ++ p :: R)) : CapR base (w.setCell ⟨g, k, none⟩ (.int .i64 x)) (some ⟨g, 0, none⟩) cap (os ++ x :: R) := by
  have h1 := (World.ownsRow.stored h k (.int .i64 x)).1
  unfold CapR
  have e1 : (os ++ x :: R).length = (os ++ p :: R).length := by simp
  have e2 : (os ++ x :: R).map (Value.int .i64) = ((os ++ p :: R).map (Value.int .i64)).set k (.int .i64 x) := by
    rw [List.map_append, List.map_append, List.set_append_right _ _ (by simp; omega), List.length_map, hk, Nat.sub_self]
    rfl
  rw [e1, e2]
  exact h1
theorem CapR.setOther {base : Nat} {w : World} {a : Option Addr} {cap : Nat} {zs : List Int} (h : CapR base w a cap zs) {ad : Addr} (hne : ∀ x, a = some x → x.block ≠ ad.block) (v : Value) : CapR base (w.setCell ad v) a cap zs := by
  refine ⟨h.1, ?_⟩
  rcases h.2 with h2 | ⟨g, c, cur, hv, hg, hh, r⟩
  · exact .inl h2
  · refine .inr ⟨g, c, cur, hv, hg, ?_, r⟩
    cases hv
    rw [Below.heap_setCell _ _ _ _ (hne _ rfl)]
    exact hh
end Go.Proofs.YtimioiaoefhabaaGreat
