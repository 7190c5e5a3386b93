/- Texts of one chain, laid one behind the other. -/
import Derived.Test.YthgmdaaiolgjlaaPartNestRound19
import Derived.Test.YthgmdaaiolgjlaaPartNestRound8
import Derived.Test.YthgmdaaiolgjlaaPartNestRound21
import Derived.Laws.AppendOwnNone
namespace Go.Proofs.Ythgmdaaiolgjlaa
open Go.ChangeShapes Go.WideShapes Go.ChangeAt Go.RowKit
theorem wpList_appI {w : World} {ops : Array Oper} {rest : List Oper} {o : Oper} {a : Act} {Q : Exit → Act → World → Prop} (hgd : o.guard = none) (s x : Operand) (ho : o.op = .call { callee := .builtin .append, args := #[s, x], argTypes := #[35, 35] })
    (B : Nat) (d0 : Option Addr) (c0 : Nat) (zs : List Int) (hs : a.eval s = .slice d0 zs.length c0) (hown : CapR B w d0 c0 zs) (ad : Option Addr) (c : Nat) (ys : List Int) (hx : a.eval x = .slice ad ys.length c) (hna : ad = none → ys.length = 0 ∧ c = 0) (hat : At w ad ys) (hb : (zs.length + ys.length) * 8 ≤ 140737488355328) (hB : B ≤ w.heap.size) (m : Nat) (R : List Int) (hm : zs.length + ys.length = m) (hR : zs ++ ys = R)
    (h : ∀ d c' w', CapR B w' d c' R → Below B w w' → wpList Try.prog ops Q rest (a.put o.dst (.slice d m c')) w') : wpList Try.prog ops Q (o :: rest) a w := by
  subst hm
  subst hR
  obtain ⟨i0, hi, hz0, hz1, hz2⟩ := info_parts Try.info3
  cases ad with
  | none =>
    obtain ⟨h1, rfl⟩ := hna rfl
    have e : ys = [] := List.eq_nil_of_length_eq_zero h1
    subst e
    refine wpList_append_own_none hgd s x 35 ho B 3 i0 1 Try.underlying35 hi _ zs.length (zs.map (Value.int .i64)) hs hown hx ?_
    have := h d0 c0 w (by rw [List.append_nil]; exact hown) (Below.refl _ _)
    simpa using this
  | some ad =>
    refine wpList_append_own _ hgd s x 35 ho B 3 i0 (.int .i64 0) 1 8 Try.underlying35 hi hz0 hz1 hz2 rfl (by decide) _ zs.length (zs.map (Value.int .i64)) hs hown ad ys.length c (ys.map (Value.int .i64)) hx (by simp) (lies_new hat) (ints_oneCell _ _) (by unfold maxLen; omega) (by omega) hB ?_
    intro v' w1 hown1 hgrow _
    have hown' : w1.ownsRow B 3 1 v' (zs.length + ys.length) ((zs ++ ys).map (Value.int .i64)) := by simpa using hown1
    obtain ⟨a', cap', hv, -, -, -, -, -⟩ := owns_at (n := zs.length + ys.length) (zs := zs ++ ys) hown'
    rw [hv]
    refine h a' cap' w1 ?_ ((Below.refl _ _).grown hgrow hB (fun k hk => (hown.lt ⟨k, 0, none⟩ (by
      cases d0 with
      | none => cases hk
      | some y =>
        rcases hown.2 with ⟨e1, -⟩ | ⟨g, cap, cur, e1, -⟩
        · cases e1
        · cases e1; cases hk; rfl)).1))
    unfold CapR
    rw [List.length_append, ← hv]
    exact hown'
/-- Rows of two answers are the same. -/
theorem sameN (U : World) (a1 a2 : Option Addr) (zs : List Int) (c1 c2 : Nat) (hl : zs.length ≤ 4611686018427387904) (h1 : At U a1 zs) (h2 : At U a2 zs) : Calls Try.prog 19 #[.slice a1 zs.length c1, .slice a2 zs.length c2] U fun e w' => e = .returned (.bool true) ∧ Below U.heap.size U w' :=
  (same_any a1 a2 zs zs.length c1 c2 U rfl hl h1 h2).mono fun e w' hh => by
    obtain ⟨n, h1, rfl⟩ := hh
    exact ⟨h1, drewB (Below.refl _ _) n⟩
end Go.Proofs.Ythgmdaaiolgjlaa
