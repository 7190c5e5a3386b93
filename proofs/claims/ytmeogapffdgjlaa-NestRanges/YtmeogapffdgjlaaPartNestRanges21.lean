/- Texts of one chain, laid one behind the other. -/
import Derived.Test.YtmeogapffdgjlaaPartNestRanges13
import Derived.Test.YtmeogapffdgjlaaPartNestRanges19
namespace Go.Proofs.Ytmeogapffdgjlaa
open Go.ChangeShapes Go.WideShapes Go.ChangeAt Go.RowKit
def zL : Lv := ⟨0, 0, none, 0, 0⟩
structure GhL where
  g : Nat
  c : Nat
theorem upd_upd {α : Type} (f : Nat → α) (i : Nat) (a b : α) : upd (upd f i a) i b = upd f i b := by
  funext j
  by_cases e : j = i
  · subst e; rw [upd_eq, upd_eq]
  · rw [upd_ne e, upd_ne e, upd_ne e]
/-- The nought that is appended first. -/
def CnL (u : World) (z : Value) : Prop := ∃ g, z = .slice (some ⟨g, 0, none⟩) 1 1 ∧ u.cell? ⟨g, 0, none⟩ = some (.int .i64 0) ∧ u.cell? ⟨g, 1, none⟩ = some (.int .i64 0) ∧ u.cell? ⟨g, 2, none⟩ = some (.slice none 0 0)
theorem CnL.later {u u' : World} {z : Value} (h : CnL u z) (hb : Below u.heap.size u u') : CnL u' z := by
  obtain ⟨g, h1, h2, h3, h4⟩ := h
  exact ⟨g, h1, (hb.cell (block_lt_of_cell h2)).trans h2, (hb.cell (block_lt_of_cell h3)).trans h3, (hb.cell (block_lt_of_cell h4)).trans h4⟩
theorem CnL.new (w : World) : CnL (w.alloc (.cells #[.int .i64 0, .int .i64 0, .slice none 0 0] 57)) (.slice (some ⟨w.heap.size, 0, none⟩) 1 1) := by
  have X := blkA_new 57 w #[.int .i64 0, .int .i64 0, .slice none 0 0]
  exact ⟨_, rfl, X.cell (k := 0) rfl, X.cell (k := 1) rfl, X.cell (k := 2) rfl⟩
structure CAp (V9 : World) (B n G H : Nat) (Lg : Nat → Value) (wA : World) (A : Nat → Option Addr) (L C : Nat → Nat) (Z : Nat → List Lv) (D : Nat → Option Addr) (E : Nat → Nat) (Y : Nat → List Lv) (ix m : Nat) (t : List Lv) (x : Lv) (y : GhL) (d : Nat → Bool) (u : World) : Prop where
  fst : d 11 = false → Below V9.heap.size V9 u ∧ d 13 = false ∧ d 15 = false
  snd : d 11 = true → ApCL B n G H (if d 15 = true then upd Lg ix (.slice (some ⟨y.g, 0, none⟩) (m + 1) y.c) else Lg) wA u A L C Z (upd D ix (some ⟨y.g, 0, none⟩)) (upd E ix y.c) (upd Y ix (Z ix ++ (t ++ [if d 13 = true then x else zL])))
section
variable {V9 : World} {B n G H : Nat} {Lg : Nat → Value} {wA : World} {A : Nat → Option Addr} {L C : Nat → Nat} {Z : Nat → List Lv} {D : Nat → Option Addr} {E : Nat → Nat} {Y : Nat → List Lv} {ix m : Nat} {t : List Lv} {x : Lv} {y : GhL} {d : Nat → Bool} {u u' : World}
theorem CAp.start : CAp V9 B n G H Lg wA A L C Z D E Y ix m t x y (fun _ => false) V9 := ⟨fun _ => ⟨Below.refl _ _, rfl, rfl⟩, fun h => by cases h⟩
theorem CAp.later (h : CAp V9 B n G H Lg wA A L C Z D E Y ix m t x y d u) (hb : Below u.heap.size u u') : CAp V9 B n G H Lg wA A L C Z D E Y ix m t x y d u' :=
  ⟨fun e => ⟨(h.fst e).1.trans (hb.mono (h.fst e).1.size), (h.fst e).2⟩, fun e => (h.snd e).later hb⟩
theorem CAp.m11 (h : CAp V9 B n G H Lg wA A L C Z D E Y ix m t x y d u) (h0 : d 11 = false) (S : ApCL B n G H Lg wA V9 A L C Z D E Y) (hi : ix < n) (hY : Y ix = Z ix ++ t) {g c : Nat} (hg : GrmZ B V9 (D ix) (Y ix ++ [zL]) u' (some ⟨g, 0, none⟩) c) : CAp V9 B n G H Lg wA A L C Z D E Y ix m t x ⟨g, c⟩ (doneAt d 11) u' := by
  have e13 : doneAt d 11 13 = false := (doneAt_ne d (by decide)).trans (h.fst h0).2.1
  have e15 : doneAt d 11 15 = false := (doneAt_ne d (by decide)).trans (h.fst h0).2.2
  refine ⟨fun e => (by rw [doneAt_eq] at e; cases e), fun _ => ?_⟩
  rw [e13, e15, if_neg (by decide), if_neg (by decide)]
  exact S.grow hi hY hg
theorem CAp.m13 (h : CAp V9 B n G H Lg wA A L C Z D E Y ix m t x y d u) (h1 : d 11 = true) (h0 : d 13 = false) (hi : ix < n) (hm : (Z ix ++ t).length = m) : CAp V9 B n G H Lg wA A L C Z D E Y ix m t x y (doneAt d 13) (put3 u y.g m x) := by
  have e11 : doneAt d 13 11 = true := (doneAt_ne d (by decide)).trans h1
  have e15 : doneAt d 13 15 = d 15 := doneAt_ne d (by decide)
  refine ⟨fun e => (by rw [e11] at e; cases e), fun _ => ?_⟩
  have q := h.snd h1
  have e0 : (if d 13 = true then x else zL) = zL := by rw [h0]; rfl
  have e1 : (if doneAt d 13 13 = true then x else zL) = x := by rw [doneAt_eq]; rfl
  rw [e0] at q
  have r := q.put hi (upd_eq _ _ _) (t := t) (y := zL) (upd_eq _ _ _) x m hm
  rw [upd_upd] at r
  rw [e15, e1]
  exact r
theorem CAp.m15 (h : CAp V9 B n G H Lg wA A L C Z D E Y ix m t x y d u) (h1 : d 11 = true) (h0 : d 15 = false) : CAp V9 B n G H Lg wA A L C Z D E Y ix m t x y (doneAt d 15) (u.setCell ⟨H, ix, none⟩ (.slice (some ⟨y.g, 0, none⟩) (m + 1) y.c)) := by
  have e11 : doneAt d 15 11 = true := (doneAt_ne d (by decide)).trans h1
  have e13 : doneAt d 15 13 = d 13 := doneAt_ne d (by decide)
  refine ⟨fun e => (by rw [e11] at e; cases e), fun _ => ?_⟩
  have q := h.snd h1
  rw [h0, if_neg (by decide)] at q
  rw [e13, doneAt_eq, if_pos rfl]
  exact q.setL ix _
/-- The cells that the store of the loop wants. -/
theorem CAp.cells (h : CAp V9 B n G H Lg wA A L C Z D E Y ix m t x y d u) (h1 : d 11 = true) (hi : ix < n) (hm : (Z ix ++ t).length = m) : ∃ c0 c1 c2, u.cell? ⟨y.g, m * 3, none⟩ = some c0 ∧ u.cell? ⟨y.g, m * 3 + 1, none⟩ = some c1 ∧ u.cell? ⟨y.g, m * 3 + 2, none⟩ = some c2 ∧ u.frozen? ⟨y.g, m * 3, none⟩ = false ∧ u.frozen? ⟨y.g, m * 3 + 1, none⟩ = false ∧ u.frozen? ⟨y.g, m * 3 + 2, none⟩ = false := by
  have q := (h.snd h1).own ix hi
  rw [upd_eq, upd_eq, upd_eq] at q
  have hl : m < (Z ix ++ (t ++ [if d 13 = true then x else zL])).length := by rw [← List.append_assoc, List.length_append, hm]; simp
  have z0 := q.cell (k := m) (j := 0) hl (by decide)
  rw [Nat.add_zero] at z0
  exact ⟨_, _, _, z0, q.cell (k := m) (j := 1) hl (by decide), q.cell (k := m) (j := 2) hl (by decide), World.ownsRow.frozenAt q _, World.ownsRow.frozenAt q _, World.ownsRow.frozenAt q _⟩
theorem CAp.cell (h : CAp V9 B n G H Lg wA A L C Z D E Y ix m t x y d u) (h1 : d 11 = true) (hi : ix < n) : ∃ c0, u.cell? ⟨H, ix, none⟩ = some c0 ∧ u.frozen? ⟨H, ix, none⟩ = false := ⟨_, (h.snd h1).long.cell hi, (h.snd h1).long.frozen ix⟩
end
theorem mark_store3 (w : World) {o : Oper} {ρ : Operand → Value} (a b : Operand) (ho : o.op = .store 57 a b) (g q : Nat) (tt nn : Int) (hx : ρ a = .pointer (some ⟨g, q, none⟩)) (hy : ρ b = .agg #[.int .i64 tt, .int .i64 nn, .slice none 0 0]) {c0 c1 c2 : Value} (z0 : w.cell? ⟨g, q, none⟩ = some c0) (z1 : w.cell? ⟨g, q + 1, none⟩ = some c1) (z2 : w.cell? ⟨g, q + 2, none⟩ = some c2) (f0 : w.frozen? ⟨g, q, none⟩ = false) (f1 : w.frozen? ⟨g, q + 1, none⟩ = false) (f2 : w.frozen? ⟨g, q + 2, none⟩ = false) {Q : World → Value → Prop}
    (h : Q (((w.setCell ⟨g, q, none⟩ (.int .i64 tt)).setCell ⟨g, q + 1, none⟩ (.int .i64 nn)).setCell ⟨g, q + 2, none⟩ (.slice none 0 0)) undef) : markUpon Try.prog w Q ((execOp ρ o).run Try.prog w) := by
  unfold execOp
  simp only [ho, hx, hy]
  simp [go_sem, z0, z1, z2, f0, f1, f2, markUpon]
  exact h
end Go.Proofs.Ytmeogapffdgjlaa
