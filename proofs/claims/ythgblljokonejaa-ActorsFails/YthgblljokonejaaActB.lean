/- The methods of Body: what all kinds share. (Written by tmpl/mkAct3.py.) -/
import Derived.Test.YthgblljokonejaaAct3
namespace Go.Proofs.Ythgblljokonejaa
open Go.ChangeShapes Go.WideShapes Go.ChangeAt Go.RowKit

theorem none_no (B : Nat) (T : TypeId) (v : Value) (w : World) (h : w.cell? ⟨B, 0, none⟩ = some (.iface T v)) : Calls Try.prog 31 #[.pointer (some ⟨B, 0, none⟩)] w fun e w' => e = .returned (.bool false) ∧ w' = w := by
  go_enter Try.func31, Try.ntmps31
  go_wp2
  go_ret
  exact ⟨rfl, rfl⟩
theorem none_yes (w : World) : Calls Try.prog 31 #[.pointer none] w fun e w' => e = .returned (.bool true) ∧ w' = w := by
  go_enter Try.func31, Try.ntmps31
  go_wp2
  go_ret
  exact ⟨rfl, rfl⟩
def FireEnd (F : Nat → Prop) (w : World) (B K t : Nat) (zs ks : List Int) (n : Nat) (I : List (List Int)) (e : Ending) (w' : World) : Prop :=
  ∃ x c A C F', e = .returned (.tuple #[.slice x (fireS t zs ks I).2.1.length c, .int .i64 (fireS t zs ks I).1]) ∧ OutT w.heap.size w' A C x (fireS t zs ks I).2.1 ∧ Bod F' w' B K t zs (fireS t zs ks I).2.2 (if (fireS t zs ks I).1 = 0 then n + 1 else n) ∧
    (∀ k, F' k → F k ∨ (w.heap.size ≤ k ∧ ∀ j y, j < (fireS t zs ks I).2.1.length → A j = some y → y.block ≠ k)) ∧ But K w w'
theorem end_fail {F : Nat → Prop} {w w1 : World} {B K t : Nat} {zs ks : List Int} {n : Nat} {I : List (List Int)} (ht : takesS t zs I = true) (hg : giveS t zs ks I = none) (hb : Bod F w1 B K t zs ks n) (b1 : But K w w1) : FireEnd F w B K t zs ks n I (.returned (.tuple #[.slice none 0 0, .int .i64 70])) w1 := by
  unfold FireEnd fireS
  rw [if_pos ht, hg]
  exact ⟨none, 0, fun _ => none, fun _ => 0, F, rfl, outT_nil _ _, hb, fun k h => .inl h, b1⟩
theorem end_arg {F : Nat → Prop} {w : World} {B K t : Nat} {zs ks : List Int} {n : Nat} {I : List (List Int)} (ht : ¬ takesS t zs I = true) (hb : Bod F w B K t zs ks n) : FireEnd F w B K t zs ks n I (.returned (.tuple #[.slice none 0 0, .int .i64 1])) w := by
  unfold FireEnd fireS
  rw [if_neg ht]
  exact ⟨none, 0, fun _ => none, fun _ => 0, F, rfl, outT_nil _ _, hb, fun k h => .inl h, But.of_below (Below.refl _ _)⟩
theorem end_ok {F F' : Nat → Prop} {w w1 : World} {B K t : Nat} {zs ks ks' : List Int} {n : Nat} {I O : List (List Int)} {x : Option Addr} {c : Nat} {A : Nat → Option Addr} {C : Nat → Nat} (ht : takesS t zs I = true) (hg : giveS t zs ks I = some (O, ks')) (hO : OutT w.heap.size w1 A C x O) (hb : Bod F' w1 B K t zs ks' (n + 1)) (hF : ∀ k, F' k → F k ∨ (w.heap.size ≤ k ∧ ∀ j y, j < O.length → A j = some y → y.block ≠ k)) (b1 : But K w w1) : FireEnd F w B K t zs ks n I (.returned (.tuple #[.slice x O.length c, .int .i64 0])) w1 := by
  unfold FireEnd fireS
  rw [if_pos ht, hg]
  exact ⟨x, c, A, C, F', rfl, hO, hb, hF, b1⟩
theorem KinE.count {F : Nat → Prop} {w : World} {K t : Nat} {zs ks : List Int} {n : Nat} (h : KinE F w K t zs ks n) (m : Nat) : KinE F (w.setCell ⟨K, 2, none⟩ (.int .i64 (m : Int))) K t zs ks m := by
  obtain ⟨a1, a2, a3, a4, c1, c2, c3, c4, h⟩ := h
  have hb := h.blk.set 2 (.int .i64 (m : Int))
  rw [kCells_count] at hb
  refine ⟨a1, a2, a3, a4, c1, c2, c3, c4, hb, h.ins.setOther (ad := ⟨K, 2, none⟩) h.rows.1 _, h.outs.setOther (ad := ⟨K, 2, none⟩) h.rows.2.1 _, (fun e => (h.taps e).setOther (ad := ⟨K, 2, none⟩) (h.rows.2.2.1 e) _), (fun e => (h.kept e).setOther (ad := ⟨K, 2, none⟩) (h.rows.2.2.2 e) _), h.own, h.f1, h.f2, h.f3, h.f4, h.rows, h.some4, h.tag, h.ok, h.keep, h.inr, fun k hF => by have := h.low k hF; simpa using this⟩
theorem KinE.cells {F : Nat → Prop} {w : World} {K t : Nat} {zs ks : List Int} {n : Nat} (h : KinE F w K t zs ks n) : (∃ a1 c1, w.cell? ⟨K, 0, none⟩ = some (.slice a1 (insS t zs).length c1) ∧ At w a1 (insS t zs)) ∧ w.cell? ⟨K, 2, none⟩ = some (.int .i64 (n : Int)) ∧ w.frozen? ⟨K, 2, none⟩ = false ∧ (insS t zs).length ≤ 1024 := by
  obtain ⟨a1, a2, a3, a4, c1, c2, c3, c4, h⟩ := h
  have hg := kCells_get t (.slice a1 (insS t zs).length c1) (.slice a2 (outsS t zs).length c2) (.slice a3 zs.length c3) (.slice a4 ks.length c4) (n : Int) zs ks
  have := (ins_pos t h.tag zs h.ok).1
  exact ⟨⟨a1, c1, h.blk.cell hg.1, h.ins.at⟩, h.blk.cell hg.2.2, h.blk.frozen 2, by omega⟩
theorem Bod.count {F F' : Nat → Prop} {w w1 : World} {B K t : Nat} {zs ks ks' : List Int} {n m : Nat} (h : Bod F w B K t zs ks n) (hk : KinE F' w1 K t zs ks' n) (hFF : ∀ k, F k → F' k) (hw : But K w w1) (w2 : World) (he : w2 = w1.setCell ⟨K, 2, none⟩ (.int .i64 (m : Int))) : Bod F' w2 B K t zs ks' m := by
  subst he
  refine ⟨?_, hFF _ h.own, h.ne, hk.count m⟩
  have h1 := h.blk.keep (w' := w1) (hw.block B h.blk.lt h.ne)
  exact h1.keep (Below.heap_setCell _ _ _ _ h.ne)
theorem Bod.same {F : Nat → Prop} {w w1 : World} {B K t : Nat} {zs ks : List Int} {n : Nat} (h : Bod F w B K t zs ks n) (hk : KinE F w1 K t zs ks n) (hw : But K w w1) : Bod F w1 B K t zs ks n := ⟨h.blk.keep (hw.block B h.blk.lt h.ne), h.own, h.ne, hk⟩
theorem fire_nil (v : Value) (w : World) : Calls Try.prog 17 #[.pointer none, v] w fun e w' => e = .returned (.tuple #[.slice none 0 0, .int .i64 3]) ∧ w' = w := by
  have NO := hidden6 (none_yes w)
  go_enter Try.func17, Try.ntmps17
  go_wp2_with (go_at_call 31; (with_reducible refine NO.out.mono ?_); rintro e w1 ⟨rfl, rfl⟩)
  go_ret2
  exact ⟨rfl, rfl⟩
theorem state_nil (w : World) : Calls Try.prog 15 #[.pointer none] w fun e w' => e = .returned (.slice none 0 0) ∧ w' = w := by
  have NO := hidden6 (none_yes w)
  go_enter Try.func15, Try.ntmps15
  go_wp2_with (go_at_call 31; (with_reducible refine NO.out.mono ?_); rintro e w1 ⟨rfl, rfl⟩)
  go_ret
  exact ⟨rfl, rfl⟩
theorem fired_nil (w : World) : Calls Try.prog 16 #[.pointer none] w fun e w' => e = .returned (.int .i64 0) ∧ w' = w := by
  have NO := hidden6 (none_yes w)
  go_enter Try.func16, Try.ntmps16
  go_wp2_with (go_at_call 31; (with_reducible refine NO.out.mono ?_); rintro e w1 ⟨rfl, rfl⟩)
  go_ret
  exact ⟨rfl, rfl⟩
theorem shape_nil (w : World) : Calls Try.prog 30 #[.pointer none] w fun e w' => e = .returned (.tuple #[.slice none 0 0, .slice none 0 0]) ∧ w' = w := by
  have NO := hidden6 (none_yes w)
  go_enter Try.func30, Try.ntmps30
  go_wp2_with (go_at_call 31; (with_reducible refine NO.out.mono ?_); rintro e w1 ⟨rfl, rfl⟩)
  go_ret2
  exact ⟨rfl, rfl⟩
end Go.Proofs.Ythgblljokonejaa
