/- Texts of one chain, laid one behind the other. -/
import Derived.Test.YtdjplmlfcolklaaPartCodeChecks6
import Derived.Laws.OwnMore
namespace Go.Proofs.Ytdjplmlfcolklaa
open Go.ChangeShapes Go.WideShapes Go.ChangeAt Go.RowKit
/-- A row of these numbers with room behind it, at or above a base. -/
def CapR (base : Nat) (w : World) (a : Option Addr) (cap : Nat) (zs : List Int) : Prop := w.ownsRow base 3 1 (.slice a zs.length cap) zs.length (zs.map (Value.int .i64))
theorem owns_later {w w' : World} {base n : Nat} {v : Value} {xs : List Value} (h : w.ownsRow base 3 1 v n xs) (hb : Below w.heap.size w w') : w'.ownsRow base 3 1 v n xs := by
  refine ⟨h.1, ?_⟩
  rcases h.2 with h2 | ⟨g, cap, cur, hv, hg, hh, r⟩
  · exact .inl h2
  · refine .inr ⟨g, cap, cur, hv, hg, ?_, r⟩
    obtain ⟨hlt, -⟩ := Array.getElem?_eq_some_iff.1 hh
    rw [hb.block g hlt]; exact hh
theorem CapR.later {base : Nat} {w w' : World} {a : Option Addr} {cap : Nat} {zs : List Int} (h : CapR base w a cap zs) (hb : Below w.heap.size w w') : CapR base w' a cap zs := owns_later h hb
theorem CapR.mono {base base' : Nat} {w : World} {a : Option Addr} {cap : Nat} {zs : List Int} (h : CapR base w a cap zs) (hb : base' ≤ base) : CapR base' w a cap zs := by
  refine ⟨h.1, ?_⟩
  rcases h.2 with h2 | ⟨g, c, cur, hv, hg, r⟩
  · exact .inl h2
  · exact .inr ⟨g, c, cur, hv, Nat.le_trans hb hg, r⟩
theorem CapR.there {base : Nat} {w : World} {a : Option Addr} {cap : Nat} {zs : List Int} (h : CapR base w a cap zs) (h0 : 0 < zs.length) : ∃ g, a = some ⟨g, 0, none⟩ ∧ base ≤ g ∧ g < w.heap.size := by
  rcases h.2 with ⟨-, h2⟩ | ⟨g, c, cur, hv, hg, hh, -⟩
  · omega
  · cases hv
    exact ⟨g, rfl, hg, (Array.getElem?_eq_some_iff.1 hh).1⟩
theorem CapR.at {base : Nat} {w : World} {a : Option Addr} {cap : Nat} {zs : List Int} (h : CapR base w a cap zs) : At w a zs := by
  obtain ⟨a', cap', hv, -, hat, -⟩ := owns_at h
  cases hv
  exact hat
theorem CapR.lt {base : Nat} {w : World} {a : Option Addr} {cap : Nat} {zs : List Int} (h : CapR base w a cap zs) : ∀ x, a = some x → base ≤ x.block ∧ x.block < w.heap.size := by
  intro x hx
  rcases h.2 with ⟨hv, -⟩ | ⟨g, c, cur, hv, hg, hh, -⟩
  · subst hx; cases hv
  · subst hx; cases hv
    exact ⟨hg, (Array.getElem?_eq_some_iff.1 hh).1⟩
theorem CapR.hd {base : Nat} {w : World} {g cap k : Nat} {os R : List Int} {p : Int} (hk : os.length = k) (h : CapR base w (some ⟨g, 0, none⟩) cap (os ++ p :: R)) : w.cell? ⟨g, k, none⟩ = some (.int .i64 p) := by
  have h1 := World.ownsRow.cellAt h k (by simp; omega)
  rw [h1, List.map_append, List.getElem?_append_right (by simp; omega), List.length_map, hk, Nat.sub_self]
  rfl
theorem CapR.fz {base : Nat} {w : World} {g cap : Nat} {zs : List Int} (h : CapR base w (some ⟨g, 0, none⟩) cap zs) (k : Nat) : w.frozen? ⟨g, k, none⟩ = false := World.ownsRow.frozenAt h k
theorem CapR.set {base : Nat} {w : World} {g cap k : Nat} {os R : List Int} {p : Int} (x : Int) (hk : os.length = k) (h : CapR base w (some ⟨g, 0, none⟩) cap (os ++ p :: R)) : CapR base (w.setCell ⟨g, k, none⟩ (.int .i64 x)) (some ⟨g, 0, none⟩) cap (os ++ x :: R) := by
  have h1 := (World.ownsRow.stored h k (.int .i64 x)).1
  unfold CapR
  have e1 : (os ++ x :: R).length = (os ++ p :: R).length := by simp
  have e2 : (os ++ x :: R).map (Value.int .i64) = ((os ++ p :: R).map (Value.int .i64)).set k (.int .i64 x) := by
    rw [List.map_append, List.map_append, List.set_append_right _ _ (by simp; omega), List.length_map, hk, Nat.sub_self]
    rfl
  rw [e1, e2]
  exact h1
/-- How the copy ends, told with its room. -/
def CopiedC (w : World) (len : Nat) (zs : List Int) (e : Ending) (w' : World) : Prop :=
  ∃ (a : Option Addr) (cap : Nat), e = .returned (.slice a len cap) ∧ CapR w.heap.size w' a cap zs ∧ Below w.heap.size w w'
set_option maxHeartbeats 400000 in
theorem ints_own (a : Option Addr) (zs : List Int) (len cap : Nat) (w : World) (h : Arg w a len cap zs) :
    Calls Try.prog 20 #[.slice a len cap] w (CopiedC w len zs) := by
  obtain ⟨hl, hr, hn, -, hat, -⟩ := h
  obtain ⟨i0, hi, hz0, hz1, hz2⟩ := info_parts Try.info3
  cases a with
  | none =>
    obtain ⟨rfl, rfl⟩ := hn rfl
    go_enter Try.func20, Try.ntmps20
    go_wp2_with (at_builtin; refine wpList_append_own_none rfl _ _ 43 rfl w.heap.size 3 i0 1 Try.underlying43 hi _ 0 [] rfl (World.ownsRow_nil _ _ _ _) rfl ?_)
    go_ret
    have e : zs = [] := List.eq_nil_of_length_eq_zero hl
    subst e
    exact ⟨none, 0, rfl, World.ownsRow_nil _ _ _ _, Below.refl _ _⟩
  | some ad =>
    go_enter Try.func20, Try.ntmps20
    go_wp2_with (at_builtin; refine wpList_append_own _ rfl _ _ 43 rfl w.heap.size 3 i0 (.int .i64 0) 1 8 Try.underlying43 hi hz0 hz1 hz2 rfl (by decide) _ 0 [] rfl (World.ownsRow_nil _ _ _ _) ad len cap (zs.map (Value.int .i64)) rfl (by simp [hl]) (lies_new hat) (ints_oneCell _ _) ?c3 ?c4 (Nat.le_refl _) ?_)
    case c3 => unfold maxLen; omega
    case c4 => omega
    intro v' w1 hown hgrow _
    have hown' : w1.ownsRow w.heap.size 3 1 v' len (zs.map (Value.int .i64)) := by simpa using hown
    obtain ⟨a', cap', hv, -, hat', hc', hn', hb'⟩ := owns_at (n := len) (zs := zs) hown'
    rw [hv]
    go_wp2
    go_ret
    refine ⟨a', cap', rfl, ?_, (Below.refl _ _).grown hgrow (Nat.le_refl _) (fun k h => by cases h)⟩
    unfold CapR
    rw [hl, ← hv]
    exact hown'
end Go.Proofs.Ytdjplmlfcolklaa
