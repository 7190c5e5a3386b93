/- The document's whole numbers of any length: Cmp (pianolaref00). -/
import Derived.Test.YtoenbiigamegoabBigGrow
import Derived.Deep.RegionWith
namespace Go.Proofs.Ytoenbiigamegoab
open Go.ChangeShapes Go.WideShapes Go.ChangeAt Go.RowKit

/-- A number of any length, as a walk is told of it: its sign, where its digits lie, which they are, and what it is worth. -/
structure Wh (w : World) (neg : Bool) (a : Option Addr) (len cap : Nat) (ds : List Int) (n : Int) : Prop where
  row : Row w a len cap ds
  norm : Norm ds
  worth : n = if neg then -val ds else val ds
  sign : neg = true → ds ≠ []
theorem Wh.below {w w' : World} {neg : Bool} {a : Option Addr} {len cap : Nat} {ds : List Int} {n : Int} (h : Wh w neg a len cap ds n) (hb : Below w.heap.size w w') : Wh w' neg a len cap ds n :=
  ⟨h.row.below hb, h.norm, h.worth, h.sign⟩
theorem Wh.pos {w : World} {a : Option Addr} {len cap : Nat} {ds : List Int} {n : Int} (h : Wh w false a len cap ds n) : n = val ds ∧ 0 ≤ n := by
  have := h.worth
  have := val_nonneg h.row.dig
  simp at *
  omega
theorem Wh.neg {w : World} {a : Option Addr} {len cap : Nat} {ds : List Int} {n : Int} (h : Wh w true a len cap ds n) : n = -val ds ∧ n < 0 := by
  have := h.worth
  have := norm_pos h.row.dig h.norm (h.sign rfl)
  simp at *
  omega

/-- A call's end: a number of any length that is worth n. -/
def MadeWh (w : World) (n : Int) (bound : Nat) (e : Ending) (w' : World) : Prop :=
  ∃ neg a len cap ds, e = .returned (.agg #[.bool neg, .slice a len cap]) ∧ Wh w' neg a len cap ds n ∧ Below w.heap.size w w' ∧ len ≤ bound

def ComparedWh (w : World) (x y : Int) (e : Ending) (w' : World) : Prop := e = .returned (.int .i64 (cmpI x y)) ∧ Below w.heap.size w w'

set_option maxHeartbeats 1000000 in
theorem cmp_any (neg1 neg2 : Bool) (a1 a2 : Option Addr) (len1 len2 cap1 cap2 : Nat) (xs ys : List Int) (x y : Int) (w : World) (h1 : Wh w neg1 a1 len1 cap1 xs x) (h2 : Wh w neg2 a2 len2 cap2 ys y) :
    Calls Try.prog 30 #[.agg #[.bool neg1, .slice a1 len1 cap1], .agg #[.bool neg2, .slice a2 len2 cap2]] w (ComparedWh w x y) := by
  have hsz := fun w' (hb : Below w.heap.size w w') => size_any a1 a2 len1 len2 cap1 cap2 xs ys w' (h1.row.below hb) (h2.row.below hb) h1.norm h2.norm
  cases neg1 <;> cases neg2
  · have HV : Hid (cmpI (val xs) (val ys) = cmpI x y) := by rw [h1.pos.1, h2.pos.1]; rfl
    clear h1 h2
    go_enter Try.func30, Try.ntmps30
    go_wp2_with (go_at_call 27; refine (hsz _ (((Below.refl _ _).alloc (Nat.le_refl _) _).alloc (by simp) _)).mono ?_; rintro e w' ⟨n, rfl, rfl⟩)
    go_ret
    exact ⟨ret_one HV.out, bdrew (((Below.refl _ _).alloc (Nat.le_refl _) _).alloc (by simp) _) n⟩
  · have HV : Hid (cmpI x y = 1) := cmpI_gt (by have := h1.pos; have := h2.neg; omega)
    clear h1 h2 hsz
    go_enter Try.func30, Try.ntmps30
    go_wp2
    go_ret
    exact ⟨ret_one HV.out.symm, (((Below.refl _ _).alloc (Nat.le_refl _) _).alloc (by simp) _)⟩
  · have HV : Hid (cmpI x y = -1) := cmpI_lt (by have := h1.neg; have := h2.pos; omega)
    clear h1 h2 hsz
    go_enter Try.func30, Try.ntmps30
    go_wp2
    go_ret
    exact ⟨ret_one HV.out.symm, (((Below.refl _ _).alloc (Nat.le_refl _) _).alloc (by simp) _)⟩
  · have HV : Hid (-cmpI (val xs) (val ys) = cmpI x y) := by
      have k1 := h1.neg.1
      have k2 := h2.neg.1
      rcases Int.lt_trichotomy (val xs) (val ys) with k | k | k
      · rw [cmpI_lt k, cmpI_gt (by omega)]; rfl
      · rw [cmpI_eq k, cmpI_eq (by omega)]; rfl
      · rw [cmpI_gt k, cmpI_lt (by omega)]; rfl
    have hb1 : -1 ≤ cmpI (val xs) (val ys) := by unfold cmpI; split; decide; split <;> decide
    have hb2 : cmpI (val xs) (val ys) ≤ 1 := by unfold cmpI; split; decide; split <;> decide
    clear h1 h2
    go_enter Try.func30, Try.ntmps30
    go_wp2_with (go_at_call 27; refine (hsz _ (((Below.refl _ _).alloc (Nat.le_refl _) _).alloc (by simp) _)).mono ?_; rintro e w' ⟨n, rfl, rfl⟩)
    go_ret
    exact ⟨ret_one HV.out, bdrew (((Below.refl _ _).alloc (Nat.le_refl _) _).alloc (by simp) _) n⟩

theorem cell_old {V : World} {o : Obj} {b k : Nat} (h : b < V.heap.size) : (V.alloc o).cell? ⟨b, k, none⟩ = V.cell? ⟨b, k, none⟩ :=
  ((Below.refl V.heap.size V).alloc (Nat.le_refl _) o).cell (p := ⟨b, k, none⟩) h
theorem pair_new {V : World} {x y : Value} {t : TypeId} {b : Nat} (hb : b = V.heap.size) : (V.alloc (.cells #[x, y] t)).cell? ⟨b, 0, none⟩ = some x ∧ (V.alloc (.cells #[x, y] t)).cell? ⟨b, 1, none⟩ = some y ∧
    (V.alloc (.cells #[x, y] t)).frozen? ⟨b, 0, none⟩ = false ∧ (V.alloc (.cells #[x, y] t)).frozen? ⟨b, 1, none⟩ = false := by
  subst hb
  exact ⟨by simp, by simp, by simp, by simp⟩

/-- Two boxed arguments and the place of the result, behind a call that turned nothing old. -/
structure Boxes (w w' : World) (x1 y1 x2 y2 x3 y3 : Value) : Prop where
  c10 : w'.cell? ⟨w.heap.size, 0, none⟩ = some x1
  c11 : w'.cell? ⟨w.heap.size, 1, none⟩ = some y1
  c20 : w'.cell? ⟨w.heap.size + 1, 0, none⟩ = some x2
  c21 : w'.cell? ⟨w.heap.size + 1, 1, none⟩ = some y2
  c30 : w'.cell? ⟨w.heap.size + 1 + 1, 0, none⟩ = some x3
  c31 : w'.cell? ⟨w.heap.size + 1 + 1, 1, none⟩ = some y3
  f30 : w'.frozen? ⟨w.heap.size + 1 + 1, 0, none⟩ = false
  f31 : w'.frozen? ⟨w.heap.size + 1 + 1, 1, none⟩ = false
  size : w.heap.size + 1 + 1 < w'.heap.size
  old : Below w.heap.size w w'
theorem boxes_first (w : World) (x1 y1 x2 y2 x3 y3 : Value) (t1 t2 t3 : TypeId) : Boxes w (((w.alloc (.cells #[x1, y1] t1)).alloc (.cells #[x2, y2] t2)).alloc (.cells #[x3, y3] t3)) x1 y1 x2 y2 x3 y3 := by
  have s1 : (w.alloc (.cells #[x1, y1] t1)).heap.size = w.heap.size + 1 := by simp
  have s2 : ((w.alloc (.cells #[x1, y1] t1)).alloc (.cells #[x2, y2] t2)).heap.size = w.heap.size + 1 + 1 := by simp
  have p1 := pair_new (V := w) (x := x1) (y := y1) (t := t1) rfl
  have p2 := pair_new (V := w.alloc (.cells #[x1, y1] t1)) (x := x2) (y := y2) (t := t2) s1.symm
  have p3 := pair_new (V := (w.alloc (.cells #[x1, y1] t1)).alloc (.cells #[x2, y2] t2)) (x := x3) (y := y3) (t := t3) s2.symm
  refine ⟨?_, ?_, ?_, ?_, p3.1, p3.2.1, p3.2.2.1, p3.2.2.2, by simp, (((Below.refl _ _).alloc (Nat.le_refl _) _).alloc (by rw [s1]; omega) _).alloc (by rw [s2]; omega) _⟩
  · rw [cell_old (by rw [s2]; omega), cell_old (by rw [s1]; omega)]; exact p1.1
  · rw [cell_old (by rw [s2]; omega), cell_old (by rw [s1]; omega)]; exact p1.2.1
  · rw [cell_old (by rw [s2]; omega)]; exact p2.1
  · rw [cell_old (by rw [s2]; omega)]; exact p2.2.1
theorem Boxes.later {w w1 w2 : World} {x1 y1 x2 y2 x3 y3 : Value} (h : Boxes w w1 x1 y1 x2 y2 x3 y3) (hb : Below w1.heap.size w1 w2) : Boxes w w2 x1 y1 x2 y2 x3 y3 := by
  have hs := h.size
  have k : ∀ b o, b ≤ w.heap.size + 1 + 1 → w2.cell? ⟨b, o, none⟩ = w1.cell? ⟨b, o, none⟩ := fun b o hbo => hb.cell (p := ⟨b, o, none⟩) (Nat.lt_of_le_of_lt hbo hs)
  have f : ∀ b o, b ≤ w.heap.size + 1 + 1 → w2.frozen? ⟨b, o, none⟩ = w1.frozen? ⟨b, o, none⟩ := fun b o hbo => hb.frozen (p := ⟨b, o, none⟩) (Nat.lt_of_le_of_lt hbo hs)
  exact ⟨by rw [k _ _ (by omega)]; exact h.c10, by rw [k _ _ (by omega)]; exact h.c11, by rw [k _ _ (by omega)]; exact h.c20, by rw [k _ _ (by omega)]; exact h.c21, by rw [k _ _ (by omega)]; exact h.c30, by rw [k _ _ (by omega)]; exact h.c31,
    by rw [f _ _ (by omega)]; exact h.f30, by rw [f _ _ (by omega)]; exact h.f31, Nat.lt_of_lt_of_le hs hb.size, h.old.trans (hb.mono h.old.size)⟩
theorem Boxes.drew {w w1 : World} {x1 y1 x2 y2 x3 y3 : Value} (h : Boxes w w1 x1 y1 x2 y2 x3 y3) : Boxes w w1.drew x1 y1 x2 y2 x3 y3 := h.later (Below.refl _ _).drew

theorem At.store {w : World} {a : Option Addr} {ds : List Int} {p : Addr} {u v : Value} (h : At w a ds) (hp : w.cell? p = some u) (hu : ∀ n, u ≠ .int .i64 n) : At (w.setCell p v) a ds := by
  rcases h with h | ⟨b, off, rfl, hc⟩
  · exact Or.inl h
  · refine Or.inr ⟨b, off, rfl, fun k hk => ?_⟩
    have hne : (⟨b, off + k, none⟩ : Addr) ≠ p := by
      rintro rfl
      rw [hc k hk] at hp
      exact hu _ (Option.some.inj hp).symm
    rw [World.cell?_setCell_other _ _ _ _ (fun e => hne e.symm)]
    exact hc k hk

/-- The end of a call that hands back a number of any length: sign and digits are stored in the result's place. -/
theorem wh_end {w w' : World} {x1 y1 x2 y2 : Value} {a : Option Addr} {len cap : Nat} {ds : List Int} {neg : Bool} {n : Int} (B : Boxes w w' x1 y1 x2 y2 (.bool false) (.slice none 0 0)) (r1 : Row w' a len cap ds) (r2 : Norm ds)
    (hw : n = if neg then -val ds else val ds) (hs : neg = true → ds ≠ []) :
    Wh ((w'.setCell ⟨w.heap.size + 1 + 1, 0, none⟩ (.bool neg)).setCell ⟨w.heap.size + 1 + 1, 1, none⟩ (.slice a len cap)) neg a len cap ds n ∧
    Below w.heap.size w ((w'.setCell ⟨w.heap.size + 1 + 1, 0, none⟩ (.bool neg)).setCell ⟨w.heap.size + 1 + 1, 1, none⟩ (.slice a len cap)) := by
  have k1 : (w'.setCell ⟨w.heap.size + 1 + 1, 0, none⟩ (.bool neg)).cell? ⟨w.heap.size + 1 + 1, 1, none⟩ = some (.slice none 0 0) := by
    rw [World.cell?_setCell_other _ _ _ _ (by simp)]; exact B.c31
  have hat := (r1.lies.store (v := .bool neg) B.c30 (fun n h => by cases h)).store (v := .slice a len cap) k1 (fun n h => by cases h)
  exact ⟨⟨⟨r1.size, hat, r1.none, r1.room, r1.short, r1.dig⟩, r2, hw, hs⟩, (B.old.setCell (by simp; omega) _).setCell (by simp; omega) _⟩
end Go.Proofs.Ytoenbiigamegoab
