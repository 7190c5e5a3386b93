/- Texts of one chain, laid one behind the other. -/
import Derived.Test.YtdifaobfomfieaaPartWitnessProducts6
import Derived.Deep.RegionWith
import Derived.Test.YtdifaobfomfieaaPartWitnessProducts1
namespace Go.Proofs.Ytdifaobfomfieaa
open Go.ChangeShapes Go.WideShapes Go.ChangeAt Go.RowKit
/-- A number of any length, as a walk is told of it: its sign, where its digits lie, which they are, and what it is worth. -/
structure Wh (w : World) (neg : Bool) (a : Option Addr) (len cap : Nat) (ds : List Int) (n : Int) : Prop where
  row : Row w a len cap ds
  norm : Norm ds
  worth : n = if neg then -val ds else val ds
  sign : neg = true → ds ≠ []
theorem Wh.below {w w' : World} {neg : Bool} {a : Option Addr} {len cap : Nat} {ds : List Int} {n : Int} (h : Wh w neg a len cap ds n) (hb : Below w.heap.size w w') : Wh w' neg a len cap ds n :=
  ⟨h.row.below hb, h.norm, h.worth, h.sign⟩
theorem Wh.pos {w : World} {a : Option Addr} {len cap : Nat} {ds : List Int} {n : Int} (h : Wh w false a len cap ds n) : n = val ds ∧ 0 ≤ n := by
  have := h.worth
  have := val_nonneg h.row.dig
  simp at *
  omega
theorem Wh.neg {w : World} {a : Option Addr} {len cap : Nat} {ds : List Int} {n : Int} (h : Wh w true a len cap ds n) : n = -val ds ∧ n < 0 := by
  have := h.worth
  have := norm_pos h.row.dig h.norm (h.sign rfl)
  simp at *
  omega
/-- A call's end: a number of any length that is worth n. -/
def MadeWh (w : World) (n : Int) (bound : Nat) (e : Ending) (w' : World) : Prop :=
  ∃ neg a len cap ds, e = .returned (.agg #[.bool neg, .slice a len cap]) ∧ Wh w' neg a len cap ds n ∧ Below w.heap.size w w' ∧ len ≤ bound
/-- Two boxed arguments and the place of the result, behind a call that turned nothing old. -/
structure Boxes (w w' : World) (x1 y1 x2 y2 x3 y3 : Value) : Prop where
  c10 : w'.cell? ⟨w.heap.size, 0, none⟩ = some x1
  c11 : w'.cell? ⟨w.heap.size, 1, none⟩ = some y1
  c20 : w'.cell? ⟨w.heap.size + 1, 0, none⟩ = some x2
  c21 : w'.cell? ⟨w.heap.size + 1, 1, none⟩ = some y2
  c30 : w'.cell? ⟨w.heap.size + 1 + 1, 0, none⟩ = some x3
  c31 : w'.cell? ⟨w.heap.size + 1 + 1, 1, none⟩ = some y3
  f30 : w'.frozen? ⟨w.heap.size + 1 + 1, 0, none⟩ = false
  f31 : w'.frozen? ⟨w.heap.size + 1 + 1, 1, none⟩ = false
  size : w.heap.size + 1 + 1 < w'.heap.size
  old : Below w.heap.size w w'
theorem Boxes.later {w w1 w2 : World} {x1 y1 x2 y2 x3 y3 : Value} (h : Boxes w w1 x1 y1 x2 y2 x3 y3) (hb : Below w1.heap.size w1 w2) : Boxes w w2 x1 y1 x2 y2 x3 y3 := by
  have hs := h.size
  have k : ∀ b o, b ≤ w.heap.size + 1 + 1 → w2.cell? ⟨b, o, none⟩ = w1.cell? ⟨b, o, none⟩ := fun b o hbo => hb.cell (p := ⟨b, o, none⟩) (Nat.lt_of_le_of_lt hbo hs)
  have f : ∀ b o, b ≤ w.heap.size + 1 + 1 → w2.frozen? ⟨b, o, none⟩ = w1.frozen? ⟨b, o, none⟩ := fun b o hbo => hb.frozen (p := ⟨b, o, none⟩) (Nat.lt_of_le_of_lt hbo hs)
  exact ⟨by rw [k _ _ (by omega)]; exact h.c10, by rw [k _ _ (by omega)]; exact h.c11, by rw [k _ _ (by omega)]; exact h.c20, by rw [k _ _ (by omega)]; exact h.c21, by rw [k _ _ (by omega)]; exact h.c30, by rw [k _ _ (by omega)]; exact h.c31,
    by rw [f _ _ (by omega)]; exact h.f30, by rw [f _ _ (by omega)]; exact h.f31, Nat.lt_of_lt_of_le hs hb.size, h.old.trans (hb.mono h.old.size)⟩
theorem Boxes.drew {w w1 : World} {x1 y1 x2 y2 x3 y3 : Value} (h : Boxes w w1 x1 y1 x2 y2 x3 y3) : Boxes w w1.drew x1 y1 x2 y2 x3 y3 := h.later (Below.refl _ _).drew
theorem At.store {w : World} {a : Option Addr} {ds : List Int} {p : Addr} {u v : Value} (h : At w a ds) (hp : w.cell? p = some u) (hu : ∀ n, u ≠ .int .i64 n) : At (w.setCell p v) a ds := by
  rcases h with h | ⟨b, off, rfl, hc⟩
  · exact Or.inl h
  · refine Or.inr ⟨b, off, rfl, fun k hk => ?_⟩
    have hne : (⟨b, off + k, none⟩ : Addr) ≠ p := by
      rintro rfl
      rw [hc k hk] at hp
      exact hu _ (Option.some.inj hp).symm
    rw [World.cell?_setCell_other _ _ _ _ (fun e => hne e.symm)]
    exact hc k hk
theorem Boxes.later3 {w w1 w2 : World} {x1 y1 x2 y2 x3 y3 : Value} (h : Boxes w w1 x1 y1 x2 y2 x3 y3) (hb : Below (w.heap.size + 1 + 1 + 1) w1 w2) : Boxes w w2 x1 y1 x2 y2 x3 y3 := by
  have hs := h.size
  have k : ∀ b o, b ≤ w.heap.size + 1 + 1 → w2.cell? ⟨b, o, none⟩ = w1.cell? ⟨b, o, none⟩ := fun b o hbo => hb.cell (p := ⟨b, o, none⟩) (Nat.lt_succ_of_le hbo)
  have f : ∀ b o, b ≤ w.heap.size + 1 + 1 → w2.frozen? ⟨b, o, none⟩ = w1.frozen? ⟨b, o, none⟩ := fun b o hbo => hb.frozen (p := ⟨b, o, none⟩) (Nat.lt_succ_of_le hbo)
  exact ⟨by rw [k _ _ (by omega)]; exact h.c10, by rw [k _ _ (by omega)]; exact h.c11, by rw [k _ _ (by omega)]; exact h.c20, by rw [k _ _ (by omega)]; exact h.c21, by rw [k _ _ (by omega)]; exact h.c30, by rw [k _ _ (by omega)]; exact h.c31,
    by rw [f _ _ (by omega)]; exact h.f30, by rw [f _ _ (by omega)]; exact h.f31, Nat.lt_of_lt_of_le hs hb.size, h.old.trans (hb.mono (by omega))⟩
/-- Memory while a product is gathered: the boxes, and the row of digits that is the call's own. -/
structure TSt (w wr : World) (g n : Nat) (x1 y1 x2 y2 : Value) (os : List Int) : Prop where
  box : Boxes w wr x1 y1 x2 y2 (.bool false) (.slice none 0 0)
  own : wr.ownsRow (w.heap.size + 1 + 1 + 1) 3 1 (.slice (some ⟨g, 0, none⟩) n n) n (os.map (Value.int .i64))
  far : w.heap.size + 1 + 1 + 1 ≤ g
  len : os.length = n
theorem TSt.cell {w wr : World} {g n : Nat} {x1 y1 x2 y2 : Value} {os : List Int} (h : TSt w wr g n x1 y1 x2 y2 os) (j : Nat) (hj : j < n) : wr.cell? ⟨g, j, none⟩ = some (.int .i64 (nth os j)) := by
  rw [h.own.cellAt j (by omega), get_map (by have := h.len; omega)]
theorem TSt.store {w wr : World} {g n : Nat} {x1 y1 x2 y2 : Value} {os : List Int} (h : TSt w wr g n x1 y1 x2 y2 os) (j : Nat) (s : Int) : TSt w (wr.setCell ⟨g, j, none⟩ (.int .i64 s)) g n x1 y1 x2 y2 (os.set j s) := by
  refine ⟨h.box.later3 ((Below.refl _ _).setCell (by exact h.far) _), ?_, h.far, by rw [List.length_set]; exact h.len⟩
  rw [List.map_set]
  exact (h.own.stored j _).1
theorem TSt.drewN {w wr : World} {g n : Nat} {x1 y1 x2 y2 : Value} {os : List Int} (h : TSt w wr g n x1 y1 x2 y2 os) (k : Nat) : TSt w (wr.drewN k) g n x1 y1 x2 y2 os :=
  ⟨h.box.later3 (bdrew (Below.refl _ _) k), h.own, h.far, h.len⟩
theorem TSt.drew {w wr : World} {g n : Nat} {x1 y1 x2 y2 : Value} {os : List Int} (h : TSt w wr g n x1 y1 x2 y2 os) : TSt w wr.drew g n x1 y1 x2 y2 os := h.drewN 1
/-- Where the rounds stand: the digits that are done, and those that later rounds still turn. -/
structure Outer (xs ys lo hi : List Int) (i n : Nat) : Prop where
  llen : lo.length = i
  hlen : i + hi.length = n
  dig : Dig (lo ++ hi)
  noughts : ∀ k, ys.length ≤ k → nth hi k = 0
  goal : lo ++ timesL (xs.drop i) hi ys = timesL xs (List.replicate n 0) ys
structure Inner (x : Int) (ys hi dn rest : List Int) (k : Nat) (c : Int) : Prop where
  dlen : dn.length = k
  len : k + rest.length = hi.length
  low : 0 ≤ c
  high : c < 1073741824
  dig : Dig (dn ++ rest)
  nought : nth rest (ys.length - k) = 0
  goal : dn ++ rowL c x rest (ys.drop k) = rowL 0 x hi ys
theorem Inner.step {x c : Int} {ys hi dn rest : List Int} {k : Nat} (h : Inner x ys hi dn rest k c) (hx : 0 ≤ x ∧ x < 1073741824) (hy : Dig ys) (hk : k < ys.length) (hl : ys.length < hi.length) :
    ∃ o rest', rest = o :: rest' ∧ (0 ≤ o ∧ o < 1073741824) ∧ Inner x ys hi (dn ++ [(o + x * nth ys k + c) % 1073741824]) rest' (k + 1) ((o + x * nth ys k + c) / 1073741824) := by
  obtain ⟨h1, h2, h3, h4, h5, h6, h7⟩ := h
  cases rest with
  | nil => simp at h2; omega
  | cons o rest' =>
    have ho := h5.right.head
    have hp := prod_le hx (hy.nth k)
    rw [drop_nth ys k hk, rowL] at h7
    refine ⟨o, rest', rfl, ho, by simp [h1], by simp at h2; omega, by omega, by omega, ?_, ?_, ?_⟩
    · rw [List.append_assoc]
      exact h5.left.append (Dig.cons (by omega) h5.right.tail)
    · rw [show ys.length - k = (ys.length - (k + 1)) + 1 by omega, nth_succ] at h6
      exact h6
    · rw [List.append_assoc]
      exact h7
theorem Inner.last {x c : Int} {ys hi dn rest : List Int} {k : Nat} (h : Inner x ys hi dn rest k c) (hk : k = ys.length) (hl : ys.length < hi.length) :
    ∃ rest', rest = 0 :: rest' ∧ dn ++ (0 + c) :: rest' = rowL 0 x hi ys := by
  obtain ⟨h1, h2, h3, h4, h5, h6, h7⟩ := h
  subst hk
  cases rest with
  | nil => simp at h2; omega
  | cons o rest' =>
    rw [Nat.sub_self, nth_zero] at h6
    subst h6
    rw [List.drop_length, rowL] at h7
    exact ⟨rest', rfl, h7⟩
theorem Outer.step {xs ys lo hi : List Int} {i n : Nat} (h : Outer xs ys lo hi i n) (hy : Dig ys) (hx : Dig xs) (hi' : i < xs.length) (hn : xs.length + ys.length = n) :
    ∃ h0 ht, rowL 0 (nth xs i) hi ys = h0 :: ht ∧ Outer xs ys (lo ++ [h0]) ht (i + 1) n := by
  obtain ⟨h1, h2, h3, h4, h5⟩ := h
  have hl : ys.length < hi.length := by omega
  have e1 := rowL_len (c := 0) (x := nth xs i) hl
  have e2 := rowL_dig (c := 0) (x := nth xs i) hl h3.right hy (hx.nth i) (by decide) (h4 _ (Nat.le_refl _))
  rw [drop_nth xs i hi', timesL] at h5
  cases e : rowL 0 (nth xs i) hi ys with
  | nil => rw [e] at e1; simp at e1; omega
  | cons h0 ht =>
    rw [e] at e1 e2 h5
    refine ⟨h0, ht, rfl, by simp [h1], by simp at e1; omega, ?_, fun k hk => ?_, ?_⟩
    · rw [List.append_assoc]; exact h3.left.append e2
    · have := rowL_far (c := 0) (x := nth xs i) (os := hi) (ys := ys) (k + 1) hl (by omega)
      rw [e, nth_succ, h4 (k + 1) (by omega)] at this
      exact this
    · rw [List.append_assoc]
      exact h5
/-- Memory while an int's digits are gathered: the result's place, the number that grows, and what its digits own. -/
structure OfSt (w wr : World) (neg : Bool) (v : Value) (i : Nat) (os : List Int) : Prop where
  c10 : wr.cell? ⟨w.heap.size, 0, none⟩ = some (.bool false)
  c11 : wr.cell? ⟨w.heap.size, 1, none⟩ = some (.slice none 0 0)
  f10 : wr.frozen? ⟨w.heap.size, 0, none⟩ = false
  f11 : wr.frozen? ⟨w.heap.size, 1, none⟩ = false
  c20 : wr.cell? ⟨w.heap.size + 1, 0, none⟩ = some (.bool neg)
  c21 : wr.cell? ⟨w.heap.size + 1, 1, none⟩ = some v
  f21 : wr.frozen? ⟨w.heap.size + 1, 1, none⟩ = false
  own : wr.ownsRow (w.heap.size + 2) 3 1 v i (os.map (Value.int .i64))
  size : w.heap.size + 2 ≤ wr.heap.size
  old : Below w.heap.size w wr
theorem own_block2 {w : World} {base n : Nat} {v : Value} {xs : List Value} (h : w.ownsRow base 3 1 v n xs) : ∀ k, v.ownBlock = some k → base ≤ k := by
  intro k hk
  rcases h.2 with ⟨hv, -⟩ | ⟨g, cap, cur, hv, hg, -⟩
  · rw [hv] at hk; cases hk
  · rw [hv] at hk; cases hk; exact hg
/-- Behind the append, ahead of the store. -/
theorem OfSt.mid {w wr w1 : World} {neg : Bool} {v : Value} {i : Nat} {os : List Int} {s : Int} (h : OfSt w wr neg v i os) (hgrow : (wr.alloc (.cells #[.int .i64 s] 3)).grownBy w1 v.ownBlock) :
    Below (w.heap.size + 2) wr w1 :=
  ((Below.refl _ _).alloc h.size _).grown hgrow (by have := h.size; simp; omega) (own_block2 h.own)
theorem OfSt.step {w wr w1 : World} {neg : Bool} {v v' : Value} {i : Nat} {os : List Int} {s : Int} (h : OfSt w wr neg v i os) (hown' : w1.ownsRow (w.heap.size + 2) 3 1 v' (i + 1) (os.map (Value.int .i64) ++ [.int .i64 s]))
    (hgrow : (wr.alloc (.cells #[.int .i64 s] 3)).grownBy w1 v.ownBlock) : OfSt w (w1.setCell ⟨w.heap.size + 1, 1, none⟩ v') neg v' (i + 1) (os ++ [s]) := by
  have m := h.mid hgrow
  have k : ∀ b o, b < w.heap.size + 2 → w1.cell? ⟨b, o, none⟩ = wr.cell? ⟨b, o, none⟩ := fun b o hb => m.cell (p := ⟨b, o, none⟩) hb
  have f : ∀ b o, b < w.heap.size + 2 → w1.frozen? ⟨b, o, none⟩ = wr.frozen? ⟨b, o, none⟩ := fun b o hb => m.frozen (p := ⟨b, o, none⟩) hb
  have fs : ∀ p : Addr, (w1.setCell ⟨w.heap.size + 1, 1, none⟩ v').frozen? p = w1.frozen? p := fun p => World.frozen?_setCell _ _ _ _
  refine ⟨?_, ?_, ?_, ?_, ?_, ?_, ?_, ?_, ?_, ?_⟩
  · rw [World.cell?_setCell_other _ _ _ _ (by simp), k _ _ (by omega)]; exact h.c10
  · rw [World.cell?_setCell_other _ _ _ _ (by simp), k _ _ (by omega)]; exact h.c11
  · rw [fs, f _ _ (by omega)]; exact h.f10
  · rw [fs, f _ _ (by omega)]; exact h.f11
  · rw [World.cell?_setCell_other _ _ _ _ (by simp), k _ _ (by omega)]; exact h.c20
  · exact World.cell?_setCell_same _ _ _ (by rw [k _ _ (by omega)]; exact h.c21)
  · rw [fs, f _ _ (by omega)]; exact h.f21
  · exact ownsRow_setCell_below (by rw [List.map_append]; exact hown') (by simp) _
  · have h1 := m.size
    have h2 := h.size
    simp [World.setCell]
    omega
  · exact (h.old.trans (m.mono (by omega))).setCell (by simp) _
/-- The end: the number is copied into the result's place. -/
theorem OfSt.done {w wr : World} {neg : Bool} {a : Option Addr} {cap i : Nat} {os : List Int} {n : Int} (h : OfSt w wr neg (.slice a i cap) i os) (hl : os.length = i) (hat : At wr a os) (hno : a = none → i = 0 ∧ cap = 0) (hr : i ≤ cap) (h3 : i ≤ 3)
    (hd : Dig os) (hn : Norm os) (hw : n = if neg then -val os else val os) (hs : neg = true → os ≠ []) :
    MadeWh w n 3 (.returned (.agg #[.bool neg, .slice a i cap])) ((wr.setCell ⟨w.heap.size, 0, none⟩ (.bool neg)).setCell ⟨w.heap.size, 1, none⟩ (.slice a i cap)) := by
  have k1 : (wr.setCell ⟨w.heap.size, 0, none⟩ (.bool neg)).cell? ⟨w.heap.size, 1, none⟩ = some (.slice none 0 0) := by
    rw [World.cell?_setCell_other _ _ _ _ (by simp)]; exact h.c11
  have hat2 := (hat.store (v := .bool neg) h.c10 (fun n h => by cases h)).store (v := .slice a i cap) k1 (fun n h => by cases h)
  exact ⟨neg, a, i, cap, os, rfl, ⟨⟨hl, hat2, hno, hr, by omega, hd⟩, hn, hw, hs⟩, (h.old.setCell (by simp) _).setCell (by simp) _, h3⟩
end Go.Proofs.Ytdifaobfomfieaa
