/- What the copy of a row (pianolaref00.Ints) answers. -/
import Derived.Test.YthgblljokonejaaOwn
namespace Go.Proofs.Ythgblljokonejaa
open Go.ChangeShapes Go.WideShapes Go.ChangeAt Go.RowKit

/-- A call's end: a new row with these numbers; nothing old has turned. -/
def Copied (w : World) (len : Nat) (zs : List Int) (e : Ending) (w' : World) : Prop :=
  ∃ (a : Option Addr) (cap : Nat), e = .returned (.slice a len cap) ∧ At w' a zs ∧ Below w.heap.size w w' ∧ (a = none → len = 0 ∧ cap = 0) ∧ len ≤ cap ∧ (∀ x, a = some x → w.heap.size ≤ x.block)

set_option maxHeartbeats 400000 in
theorem ints_any (a : Option Addr) (zs : List Int) (len cap : Nat) (w : World) (h : Arg w a len cap zs) :
    Calls Try.prog 28 #[.slice a len cap] w (Copied w len zs) := by
  obtain ⟨hl, hr, hn, -, hat, -⟩ := h
  obtain ⟨i0, hi, hz0, hz1, hz2⟩ := info_parts Try.info3
  cases a with
  | none =>
    obtain ⟨rfl, rfl⟩ := hn rfl
    go_enter Try.func28, Try.ntmps28
    go_wp2_with (at_builtin; refine wpList_append_own_none rfl _ _ 22 rfl w.heap.size 3 i0 1 Try.underlying22 hi _ 0 [] rfl (World.ownsRow_nil _ _ _ _) rfl ?_)
    go_ret
    have e : zs = [] := List.eq_nil_of_length_eq_zero hl
    subst e
    exact ⟨none, 0, rfl, Or.inl rfl, Below.refl _ _, fun _ => ⟨rfl, rfl⟩, Nat.le_refl _, (fun x hx => by cases hx)⟩
  | some ad =>
    go_enter Try.func28, Try.ntmps28
    go_wp2_with (at_builtin; refine wpList_append_own _ rfl _ _ 22 rfl w.heap.size 3 i0 (.int .i64 0) 1 8 Try.underlying22 hi hz0 hz1 hz2 rfl (by decide) _ 0 [] rfl (World.ownsRow_nil _ _ _ _) ad len cap (zs.map (Value.int .i64)) rfl (by simp [hl]) (lies_new hat) (ints_oneCell _ _) ?c3 ?c4 (Nat.le_refl _) ?_)
    case c3 => unfold maxLen; omega
    case c4 => omega
    intro v' w1 hown hgrow _
    obtain ⟨a', cap', hv, -, hat', hc', hn', hb'⟩ := owns_at (n := len) (zs := zs) (by simpa using hown)
    rw [hv]
    go_wp2
    go_ret
    exact ⟨a', cap', rfl, hat', (Below.refl _ _).grown hgrow (Nat.le_refl _) (fun k h => by cases h), hn', hc', hb'⟩
end Go.Proofs.Ythgblljokonejaa
