/- Texts of one chain, laid one behind the other. -/
import Derived.Test.YtolpelfdhcccnaaGreatDoorPartSourceParses7
import Derived.Deep.RegionWith
import Derived.Test.YtolpelfdhcccnaaGreatDoorPartSourceParses2
namespace Go.Proofs.YtolpelfdhcccnaaGreatDoor
open Go.ChangeShapes Go.WideShapes Go.ChangeAt Go.RowKit
/-- A number of any length, as a walk is told of it: its sign, where its digits lie, which they are, and what it is worth. -/
structure Wh (w : World) (neg : Bool) (a : Option Addr) (len cap : Nat) (ds : List Int) (n : Int) : Prop where
  row : Row w a len cap ds
  norm : Norm ds
  worth : n = if neg then -val ds else val ds
  sign : neg = true → ds ≠ []
theorem Wh.below {w w' : World} {neg : Bool} {a : Option Addr} {len cap : Nat} {ds : List Int} {n : Int} (h : Wh w neg a len cap ds n) (hb : Below w.heap.size w w') : Wh w' neg a len cap ds n :=
  ⟨h.row.below hb, h.norm, h.worth, h.sign⟩
theorem Wh.pos {w : World} {a : Option Addr} {len cap : Nat} {ds : List Int} {n : Int} (h : Wh w false a len cap ds n) : n = val ds ∧ 0 ≤ n := by
  have := h.worth
  have := val_nonneg h.row.dig
  simp at *
  omega
theorem Wh.neg {w : World} {a : Option Addr} {len cap : Nat} {ds : List Int} {n : Int} (h : Wh w true a len cap ds n) : n = -val ds ∧ n < 0 := by
  have := h.worth
  have := norm_pos h.row.dig h.norm (h.sign rfl)
  simp at *
  omega
/-- A call's end: a number of any length that is worth n. -/
def MadeWh (w : World) (n : Int) (bound : Nat) (e : Ending) (w' : World) : Prop :=
  ∃ neg a len cap ds, e = .returned (.agg #[.bool neg, .slice a len cap]) ∧ Wh w' neg a len cap ds n ∧ Below w.heap.size w w' ∧ len ≤ bound
def ComparedWh (w : World) (x y : Int) (e : Ending) (w' : World) : Prop := e = .returned (.int .i64 (cmpI x y)) ∧ Below w.heap.size w w'
set_option maxHeartbeats 1000000 in
theorem cmp_any (neg1 neg2 : Bool) (a1 a2 : Option Addr) (len1 len2 cap1 cap2 : Nat) (xs ys : List Int) (x y : Int) (w : World) (h1 : Wh w neg1 a1 len1 cap1 xs x) (h2 : Wh w neg2 a2 len2 cap2 ys y) :
    Calls Tryz.prog 185 #[.agg #[.bool neg1, .slice a1 len1 cap1], .agg #[.bool neg2, .slice a2 len2 cap2]] w (ComparedWh w x y) := by
  have hsz := fun w' (hb : Below w.heap.size w w') => size_any a1 a2 len1 len2 cap1 cap2 xs ys w' (h1.row.below hb) (h2.row.below hb) h1.norm h2.norm
  cases neg1 <;> cases neg2
  · have HV : Hid (cmpI (val xs) (val ys) = cmpI x y) := by rw [h1.pos.1, h2.pos.1]; rfl
    clear h1 h2
    go_enter Tryz.func185, Tryz.ntmps185
    go_wp2_with (go_at_call 182; refine (hsz _ (((Below.refl _ _).alloc (Nat.le_refl _) _).alloc (by simp) _)).mono ?_; rintro e w' ⟨n, rfl, rfl⟩)
    go_ret
    exact ⟨ret_one HV.out, bdrew (((Below.refl _ _).alloc (Nat.le_refl _) _).alloc (by simp) _) n⟩
  · have HV : Hid (cmpI x y = 1) := cmpI_gt (by have := h1.pos; have := h2.neg; omega)
    clear h1 h2 hsz
    go_enter Tryz.func185, Tryz.ntmps185
    go_wp2
    go_ret
    exact ⟨ret_one HV.out.symm, (((Below.refl _ _).alloc (Nat.le_refl _) _).alloc (by simp) _)⟩
  · have HV : Hid (cmpI x y = -1) := cmpI_lt (by have := h1.neg; have := h2.pos; omega)
    clear h1 h2 hsz
    go_enter Tryz.func185, Tryz.ntmps185
    go_wp2
    go_ret
    exact ⟨ret_one HV.out.symm, (((Below.refl _ _).alloc (Nat.le_refl _) _).alloc (by simp) _)⟩
  · have HV : Hid (-cmpI (val xs) (val ys) = cmpI x y) := by
      have k1 := h1.neg.1
      have k2 := h2.neg.1
      rcases Int.lt_trichotomy (val xs) (val ys) with k | k | k
      · rw [cmpI_lt k, cmpI_gt (by omega)]; rfl
      · rw [cmpI_eq k, cmpI_eq (by omega)]; rfl
      · rw [cmpI_gt k, cmpI_lt (by omega)]; rfl
    have hb1 : -1 ≤ cmpI (val xs) (val ys) := by unfold cmpI; split; decide; split <;> decide
    have hb2 : cmpI (val xs) (val ys) ≤ 1 := by unfold cmpI; split; decide; split <;> decide
    clear h1 h2
    go_enter Tryz.func185, Tryz.ntmps185
    go_wp2_with (go_at_call 182; refine (hsz _ (((Below.refl _ _).alloc (Nat.le_refl _) _).alloc (by simp) _)).mono ?_; rintro e w' ⟨n, rfl, rfl⟩)
    go_ret
    exact ⟨ret_one HV.out, bdrew (((Below.refl _ _).alloc (Nat.le_refl _) _).alloc (by simp) _) n⟩
theorem cell_old {V : World} {o : Obj} {b k : Nat} (h : b < V.heap.size) : (V.alloc o).cell? ⟨b, k, none⟩ = V.cell? ⟨b, k, none⟩ :=
  ((Below.refl V.heap.size V).alloc (Nat.le_refl _) o).cell (p := ⟨b, k, none⟩) h
theorem pair_new_k {V : World} {x y : Value} {t : TypeId} {b : Nat} (hb : b = V.heap.size) : (V.alloc (.cells #[x, y] t)).cell? ⟨b, 0, none⟩ = some x ∧ (V.alloc (.cells #[x, y] t)).cell? ⟨b, 1, none⟩ = some y ∧
    (V.alloc (.cells #[x, y] t)).frozen? ⟨b, 0, none⟩ = false ∧ (V.alloc (.cells #[x, y] t)).frozen? ⟨b, 1, none⟩ = false := by
  subst hb
  exact ⟨by simp, by simp, by simp, by simp⟩
/-- Two boxed arguments and the place of the result, behind a call that turned nothing old. -/
structure Boxes (w w' : World) (x1 y1 x2 y2 x3 y3 : Value) : Prop where
  c10 : w'.cell? ⟨w.heap.size, 0, none⟩ = some x1
  c11 : w'.cell? ⟨w.heap.size, 1, none⟩ = some y1
  c20 : w'.cell? ⟨w.heap.size + 1, 0, none⟩ = some x2
  c21 : w'.cell? ⟨w.heap.size + 1, 1, none⟩ = some y2
  c30 : w'.cell? ⟨w.heap.size + 1 + 1, 0, none⟩ = some x3
  c31 : w'.cell? ⟨w.heap.size + 1 + 1, 1, none⟩ = some y3
  f30 : w'.frozen? ⟨w.heap.size + 1 + 1, 0, none⟩ = false
  f31 : w'.frozen? ⟨w.heap.size + 1 + 1, 1, none⟩ = false
  size : w.heap.size + 1 + 1 < w'.heap.size
  old : Below w.heap.size w w'
theorem boxes_first (w : World) (x1 y1 x2 y2 x3 y3 : Value) (t1 t2 t3 : TypeId) : Boxes w (((w.alloc (.cells #[x1, y1] t1)).alloc (.cells #[x2, y2] t2)).alloc (.cells #[x3, y3] t3)) x1 y1 x2 y2 x3 y3 := by
  have s1 : (w.alloc (.cells #[x1, y1] t1)).heap.size = w.heap.size + 1 := by simp
  have s2 : ((w.alloc (.cells #[x1, y1] t1)).alloc (.cells #[x2, y2] t2)).heap.size = w.heap.size + 1 + 1 := by simp
  have p1 := pair_new_k (V := w) (x := x1) (y := y1) (t := t1) rfl
  have p2 := pair_new_k (V := w.alloc (.cells #[x1, y1] t1)) (x := x2) (y := y2) (t := t2) s1.symm
  have p3 := pair_new_k (V := (w.alloc (.cells #[x1, y1] t1)).alloc (.cells #[x2, y2] t2)) (x := x3) (y := y3) (t := t3) s2.symm
  refine ⟨?_, ?_, ?_, ?_, p3.1, p3.2.1, p3.2.2.1, p3.2.2.2, by simp, (((Below.refl _ _).alloc (Nat.le_refl _) _).alloc (by rw [s1]; omega) _).alloc (by rw [s2]; omega) _⟩
  · rw [cell_old (by rw [s2]; omega), cell_old (by rw [s1]; omega)]; exact p1.1
  · rw [cell_old (by rw [s2]; omega), cell_old (by rw [s1]; omega)]; exact p1.2.1
  · rw [cell_old (by rw [s2]; omega)]; exact p2.1
  · rw [cell_old (by rw [s2]; omega)]; exact p2.2.1
theorem Boxes.later {w w1 w2 : World} {x1 y1 x2 y2 x3 y3 : Value} (h : Boxes w w1 x1 y1 x2 y2 x3 y3) (hb : Below w1.heap.size w1 w2) : Boxes w w2 x1 y1 x2 y2 x3 y3 := by
  have hs := h.size
  have k : ∀ b o, b ≤ w.heap.size + 1 + 1 → w2.cell? ⟨b, o, none⟩ = w1.cell? ⟨b, o, none⟩ := fun b o hbo => hb.cell (p := ⟨b, o, none⟩) (Nat.lt_of_le_of_lt hbo hs)
  have f : ∀ b o, b ≤ w.heap.size + 1 + 1 → w2.frozen? ⟨b, o, none⟩ = w1.frozen? ⟨b, o, none⟩ := fun b o hbo => hb.frozen (p := ⟨b, o, none⟩) (Nat.lt_of_le_of_lt hbo hs)
  exact ⟨by rw [k _ _ (by omega)]; exact h.c10, by rw [k _ _ (by omega)]; exact h.c11, by rw [k _ _ (by omega)]; exact h.c20, by rw [k _ _ (by omega)]; exact h.c21, by rw [k _ _ (by omega)]; exact h.c30, by rw [k _ _ (by omega)]; exact h.c31,
    by rw [f _ _ (by omega)]; exact h.f30, by rw [f _ _ (by omega)]; exact h.f31, Nat.lt_of_lt_of_le hs hb.size, h.old.trans (hb.mono h.old.size)⟩
theorem Boxes.drew {w w1 : World} {x1 y1 x2 y2 x3 y3 : Value} (h : Boxes w w1 x1 y1 x2 y2 x3 y3) : Boxes w w1.drew x1 y1 x2 y2 x3 y3 := h.later (Below.refl _ _).drew
theorem At.store {w : World} {a : Option Addr} {ds : List Int} {p : Addr} {u v : Value} (h : At w a ds) (hp : w.cell? p = some u) (hu : ∀ n, u ≠ .int .i64 n) : At (w.setCell p v) a ds := by
  rcases h with h | ⟨b, off, rfl, hc⟩
  · exact Or.inl h
  · refine Or.inr ⟨b, off, rfl, fun k hk => ?_⟩
    have hne : (⟨b, off + k, none⟩ : Addr) ≠ p := by
      rintro rfl
      rw [hc k hk] at hp
      exact hu _ (Option.some.inj hp).symm
    rw [World.cell?_setCell_other _ _ _ _ (fun e => hne e.symm)]
    exact hc k hk
/-- The end of a call that hands back a number of any length: sign and digits are stored in the result's place. -/
theorem wh_end {w w' : World} {x1 y1 x2 y2 : Value} {a : Option Addr} {len cap : Nat} {ds : List Int} {neg : Bool} {n : Int} (B : Boxes w w' x1 y1 x2 y2 (.bool false) (.slice none 0 0)) (r1 : Row w' a len cap ds) (r2 : Norm ds)
    (hw : n = if neg then -val ds else val ds) (hs : neg = true → ds ≠ []) :
    Wh ((w'.setCell ⟨w.heap.size + 1 + 1, 0, none⟩ (.bool neg)).setCell ⟨w.heap.size + 1 + 1, 1, none⟩ (.slice a len cap)) neg a len cap ds n ∧
    Below w.heap.size w ((w'.setCell ⟨w.heap.size + 1 + 1, 0, none⟩ (.bool neg)).setCell ⟨w.heap.size + 1 + 1, 1, none⟩ (.slice a len cap)) := by
  have k1 : (w'.setCell ⟨w.heap.size + 1 + 1, 0, none⟩ (.bool neg)).cell? ⟨w.heap.size + 1 + 1, 1, none⟩ = some (.slice none 0 0) := by
    rw [World.cell?_setCell_other _ _ _ _ (by simp)]; exact B.c31
  have hat := (r1.lies.store (v := .bool neg) B.c30 (fun n h => by cases h)).store (v := .slice a len cap) k1 (fun n h => by cases h)
  exact ⟨⟨⟨r1.size, hat, r1.none, r1.room, r1.short, r1.dig⟩, r2, hw, hs⟩, (B.old.setCell (by simp; omega) _).setCell (by simp; omega) _⟩
theorem Boxes.later3 {w w1 w2 : World} {x1 y1 x2 y2 x3 y3 : Value} (h : Boxes w w1 x1 y1 x2 y2 x3 y3) (hb : Below (w.heap.size + 1 + 1 + 1) w1 w2) : Boxes w w2 x1 y1 x2 y2 x3 y3 := by
  have hs := h.size
  have k : ∀ b o, b ≤ w.heap.size + 1 + 1 → w2.cell? ⟨b, o, none⟩ = w1.cell? ⟨b, o, none⟩ := fun b o hbo => hb.cell (p := ⟨b, o, none⟩) (Nat.lt_succ_of_le hbo)
  have f : ∀ b o, b ≤ w.heap.size + 1 + 1 → w2.frozen? ⟨b, o, none⟩ = w1.frozen? ⟨b, o, none⟩ := fun b o hbo => hb.frozen (p := ⟨b, o, none⟩) (Nat.lt_succ_of_le hbo)
  exact ⟨by rw [k _ _ (by omega)]; exact h.c10, by rw [k _ _ (by omega)]; exact h.c11, by rw [k _ _ (by omega)]; exact h.c20, by rw [k _ _ (by omega)]; exact h.c21, by rw [k _ _ (by omega)]; exact h.c30, by rw [k _ _ (by omega)]; exact h.c31,
    by rw [f _ _ (by omega)]; exact h.f30, by rw [f _ _ (by omega)]; exact h.f31, Nat.lt_of_lt_of_le hs hb.size, h.old.trans (hb.mono (by omega))⟩
/-- Memory while a product is gathered: the boxes, and the row of digits that is the call's own. -/
structure TSt (w wr : World) (g n : Nat) (x1 y1 x2 y2 : Value) (os : List Int) : Prop where
  box : Boxes w wr x1 y1 x2 y2 (.bool false) (.slice none 0 0)
  own : wr.ownsRow (w.heap.size + 1 + 1 + 1) 3 1 (.slice (some ⟨g, 0, none⟩) n n) n (os.map (Value.int .i64))
  far : w.heap.size + 1 + 1 + 1 ≤ g
  len : os.length = n
theorem TSt.cell {w wr : World} {g n : Nat} {x1 y1 x2 y2 : Value} {os : List Int} (h : TSt w wr g n x1 y1 x2 y2 os) (j : Nat) (hj : j < n) : wr.cell? ⟨g, j, none⟩ = some (.int .i64 (nth os j)) := by
  rw [h.own.cellAt j (by omega), get_map (by have := h.len; omega)]
theorem TSt.free {w wr : World} {g n : Nat} {x1 y1 x2 y2 : Value} {os : List Int} (h : TSt w wr g n x1 y1 x2 y2 os) (j : Nat) : wr.frozen? ⟨g, j, none⟩ = false := h.own.frozenAt j
theorem TSt.store {w wr : World} {g n : Nat} {x1 y1 x2 y2 : Value} {os : List Int} (h : TSt w wr g n x1 y1 x2 y2 os) (j : Nat) (s : Int) : TSt w (wr.setCell ⟨g, j, none⟩ (.int .i64 s)) g n x1 y1 x2 y2 (os.set j s) := by
  refine ⟨h.box.later3 ((Below.refl _ _).setCell (by exact h.far) _), ?_, h.far, by rw [List.length_set]; exact h.len⟩
  rw [List.map_set]
  exact (h.own.stored j _).1
theorem TSt.drewN {w wr : World} {g n : Nat} {x1 y1 x2 y2 : Value} {os : List Int} (h : TSt w wr g n x1 y1 x2 y2 os) (k : Nat) : TSt w (wr.drewN k) g n x1 y1 x2 y2 os :=
  ⟨h.box.later3 (bdrew (Below.refl _ _) k), h.own, h.far, h.len⟩
theorem TSt.drew {w wr : World} {g n : Nat} {x1 y1 x2 y2 : Value} {os : List Int} (h : TSt w wr g n x1 y1 x2 y2 os) : TSt w wr.drew g n x1 y1 x2 y2 os := h.drewN 1
theorem tst_first {w W w0 : World} {n g : Nat} {x1 y1 x2 y2 : Value} (hB : Boxes w W x1 y1 x2 y2 (.bool false) (.slice none 0 0)) (hg : W.heap.size = g)
    (hown : w0.ownsRow (w.heap.size + 1 + 1 + 1) 3 1 (.slice (some ⟨W.heap.size, 0, none⟩) n n) n (madeCells (Value.int .i64 0).cells (n * 1)).toList) (hgrow : W.grownBy w0 none) : TSt w w0 g n x1 y1 x2 y2 (List.replicate n 0) := by
  subst hg
  refine ⟨hB.later3 ((Below.refl _ _).grown hgrow (by have := hB.size; omega) (fun k h => by cases h)), ?_, by have := hB.size; omega, by simp⟩
  rw [List.map_replicate]
  have e : (Value.int .i64 0).cells = #[.int .i64 0] := rfl
  rw [e, Nat.mul_one, toList_madeCells_one] at hown
  exact hown
theorem times_zero (neg1 neg2 : Bool) (a1 a2 : Option Addr) (len1 len2 cap1 cap2 : Nat) (xs ys : List Int) (x y : Int) (w : World) (h1 : Wh w neg1 a1 len1 cap1 xs x) (h2 : Wh w neg2 a2 len2 cap2 ys y) (h0 : len1 = 0 ∨ len2 = 0) :
    Calls Tryz.prog 168 #[.agg #[.bool neg1, .slice a1 len1 cap1], .agg #[.bool neg2, .slice a2 len2 cap2]] w (MadeWh w (x * y) (len1 + len2)) := by
  have HB := boxes_first w (.bool neg1) (.slice a1 len1 cap1) (.bool neg2) (.slice a2 len2 cap2) (.bool false) (.slice none 0 0) 228 228 228
  have HZ : Hid (x * y = 0) := by
    show x * y = 0
    rcases h0 with rfl | rfl
    · have e : xs = [] := List.eq_nil_of_length_eq_zero h1.row.size
      have := h1.worth
      subst e
      have : x = 0 := by rw [this]; cases neg1 <;> rfl
      rw [this, Int.zero_mul]
    · have e : ys = [] := List.eq_nil_of_length_eq_zero h2.row.size
      have := h2.worth
      subst e
      have : y = 0 := by rw [this]; cases neg2 <;> rfl
      rw [this, Int.mul_zero]
  have hW : ∀ W, Wh W false none 0 0 [] (x * y) := fun W => ⟨⟨rfl, Or.inl rfl, fun _ => ⟨rfl, rfl⟩, Nat.le_refl _, by decide, dig_nil⟩, (fun h => absurd rfl h), by rw [HZ.out]; rfl, (fun h => by cases h)⟩
  have HBo := HB.old
  by_cases hl : len1 = 0
  · subst hl
    clear h1 h2 h0
    go_enter Tryz.func168, Tryz.ntmps168
    go_wp2
    exact bodyPost_ret (v := .agg #[.bool false, .slice none 0 0]) (by simp [results, Tryz.results168, go_sem]) rfl ⟨false, none, 0, 0, [], rfl, hW _, HBo, by omega⟩
  · have hl2 : len2 = 0 := by omega
    subst hl2
    have s1 := h1.row.short
    have q1 : ((len1 : Int) == 0) = false := by simp; omega
    clear h1 h2 h0
    go_enter Tryz.func168, Tryz.ntmps168
    go_wp2
    exact bodyPost_ret (v := .agg #[.bool false, .slice none 0 0]) (by simp [results, Tryz.results168, go_sem]) rfl ⟨false, none, 0, 0, [], rfl, hW _, HBo, by omega⟩
/-- Where the rounds stand: the digits that are done, and those that later rounds still turn. -/
structure Outer (xs ys lo hi : List Int) (i n : Nat) : Prop where
  llen : lo.length = i
  hlen : i + hi.length = n
  dig : Dig (lo ++ hi)
  noughts : ∀ k, ys.length ≤ k → nth hi k = 0
  goal : lo ++ timesL (xs.drop i) hi ys = timesL xs (List.replicate n 0) ys
structure Inner (x : Int) (ys hi dn rest : List Int) (k : Nat) (c : Int) : Prop where
  dlen : dn.length = k
  len : k + rest.length = hi.length
  low : 0 ≤ c
  high : c < 1073741824
  dig : Dig (dn ++ rest)
  nought : nth rest (ys.length - k) = 0
  goal : dn ++ rowL c x rest (ys.drop k) = rowL 0 x hi ys
theorem Inner.step {x c : Int} {ys hi dn rest : List Int} {k : Nat} (h : Inner x ys hi dn rest k c) (hx : 0 ≤ x ∧ x < 1073741824) (hy : Dig ys) (hk : k < ys.length) (hl : ys.length < hi.length) :
    ∃ o rest', rest = o :: rest' ∧ (0 ≤ o ∧ o < 1073741824) ∧ Inner x ys hi (dn ++ [(o + x * nth ys k + c) % 1073741824]) rest' (k + 1) ((o + x * nth ys k + c) / 1073741824) := by
  obtain ⟨h1, h2, h3, h4, h5, h6, h7⟩ := h
  cases rest with
  | nil => simp at h2; omega
  | cons o rest' =>
    have ho := h5.right.head
    have hp := prod_le hx (hy.nth k)
    rw [drop_nth ys k hk, rowL] at h7
    refine ⟨o, rest', rfl, ho, by simp [h1], by simp at h2; omega, by omega, by omega, ?_, ?_, ?_⟩
    · rw [List.append_assoc]
      exact h5.left.append (Dig.cons (by omega) h5.right.tail)
    · rw [show ys.length - k = (ys.length - (k + 1)) + 1 by omega, nth_succ] at h6
      exact h6
    · rw [List.append_assoc]
      exact h7
theorem Inner.last {x c : Int} {ys hi dn rest : List Int} {k : Nat} (h : Inner x ys hi dn rest k c) (hk : k = ys.length) (hl : ys.length < hi.length) :
    ∃ rest', rest = 0 :: rest' ∧ dn ++ (0 + c) :: rest' = rowL 0 x hi ys := by
  obtain ⟨h1, h2, h3, h4, h5, h6, h7⟩ := h
  subst hk
  cases rest with
  | nil => simp at h2; omega
  | cons o rest' =>
    rw [Nat.sub_self, nth_zero] at h6
    subst h6
    rw [List.drop_length, rowL] at h7
    exact ⟨rest', rfl, h7⟩
theorem Outer.step {xs ys lo hi : List Int} {i n : Nat} (h : Outer xs ys lo hi i n) (hy : Dig ys) (hx : Dig xs) (hi' : i < xs.length) (hn : xs.length + ys.length = n) :
    ∃ h0 ht, rowL 0 (nth xs i) hi ys = h0 :: ht ∧ Outer xs ys (lo ++ [h0]) ht (i + 1) n := by
  obtain ⟨h1, h2, h3, h4, h5⟩ := h
  have hl : ys.length < hi.length := by omega
  have e1 := rowL_len (c := 0) (x := nth xs i) hl
  have e2 := rowL_dig (c := 0) (x := nth xs i) hl h3.right hy (hx.nth i) (by decide) (h4 _ (Nat.le_refl _))
  rw [drop_nth xs i hi', timesL] at h5
  cases e : rowL 0 (nth xs i) hi ys with
  | nil => rw [e] at e1; simp at e1; omega
  | cons h0 ht =>
    rw [e] at e1 e2 h5
    refine ⟨h0, ht, rfl, by simp [h1], by simp at e1; omega, ?_, fun k hk => ?_, ?_⟩
    · rw [List.append_assoc]; exact h3.left.append e2
    · have := rowL_far (c := 0) (x := nth xs i) (os := hi) (ys := ys) (k + 1) hl (by omega)
      rw [e, nth_succ, h4 (k + 1) (by omega)] at this
      exact this
    · rw [List.append_assoc]
      exact h5
theorem nth_mid {lo dn rest : List Int} {o : Int} {i k : Nat} (h1 : lo.length = i) (h2 : dn.length = k) : nth (lo ++ (dn ++ o :: rest)) (i + k) = o := by
  rw [nth_at h1]
  have := nth_at (hi := o :: rest) h2 0
  rwa [Nat.add_zero, nth_zero] at this
theorem set_mid {lo dn rest : List Int} {o s : Int} {i k : Nat} (h1 : lo.length = i) (h2 : dn.length = k) : (lo ++ (dn ++ o :: rest)).set (i + k) s = lo ++ ((dn ++ [s]) ++ rest) := by
  rw [← List.append_assoc, set_at (by simp [h1, h2])]
  simp
set_option maxRecDepth 100000 in
set_option maxHeartbeats 2000000 in
theorem times_some (neg1 neg2 : Bool) (b1 off1 b2 off2 : Nat) (len1 len2 cap1 cap2 : Nat) (xs ys : List Int) (x y : Int) (w : World) (h1 : Wh w neg1 (some ⟨b1, off1, none⟩) len1 cap1 xs x) (h2 : Wh w neg2 (some ⟨b2, off2, none⟩) len2 cap2 ys y) (hp1 : 0 < len1) (hp2 : 0 < len2) (hsum : len1 + len2 < 1000000000)
    (hc1 : ∀ k, k < len1 → w.cell? ⟨b1, off1 + k, none⟩ = some (.int .i64 (nth xs k))) (hc2 : ∀ k, k < len2 → w.cell? ⟨b2, off2 + k, none⟩ = some (.int .i64 (nth ys k))) :
    Calls Tryz.prog 168 #[.agg #[.bool neg1, .slice (some ⟨b1, off1, none⟩) len1 cap1], .agg #[.bool neg2, .slice (some ⟨b2, off2, none⟩) len2 cap2]] w (MadeWh w (x * y) (len1 + len2)) := by
  obtain ⟨i0, hi, hz0, hz1, hz2⟩ := info_parts Tryz.info3
  have HB := boxes_first w (.bool neg1) (.slice (some ⟨b1, off1, none⟩) len1 cap1) (.bool neg2) (.slice (some ⟨b2, off2, none⟩) len2 cap2) (.bool false) (.slice none 0 0) 228 228 228
  have HH1 : Hid (Wh w neg1 (some ⟨b1, off1, none⟩) len1 cap1 xs x) := h1
  have HH2 : Hid (Wh w neg2 (some ⟨b2, off2, none⟩) len2 cap2 ys y) := h2
  have HC1 : Hid (∀ k, k < len1 → w.cell? ⟨b1, off1 + k, none⟩ = some (.int .i64 (nth xs k))) := hc1
  have HC2 : Hid (∀ k, k < len2 → w.cell? ⟨b2, off2 + k, none⟩ = some (.int .i64 (nth ys k))) := hc2
  have z1 := h1.row.size
  have z2 := h2.row.size
  have q1 : ((len1 : Int) == 0) = false := by simp; omega
  have q2 : ((len2 : Int) == 0) = false := by simp; omega
  clear h1 h2 hc1 hc2
  go_enter Tryz.func168, Tryz.ntmps168
  go_wp2_with (at_make; refine wpList_make_full _ rfl _ _ 60 rfl (w.heap.size + 1 + 1 + 1) 3 i0 (.int .i64 0) 1 Tryz.underlying60 hi hz0 hz1 _ _ _ _ (len1 + len2) rfl rfl (by omega) (by omega) (by rw [hz2]; omega) (by unfold maxLen; omega) (by simp) ?_; intro w0 hown0 hgrow0)
  have T0 := tst_first (g := w.heap.size + 1 + 1 + 1) HB (by simp) hown0 hgrow0
  clear hown0 hgrow0 HB
  go_loopg [6, 7, 8, 9] len1 (fun gk io _ _ _ wr => ∃ (i : Nat) (lo hi : List Int), i ≤ len1 ∧ gk = len1 - i ∧ io = .int .i64 i ∧ Outer xs ys lo hi i (len1 + len2) ∧
    TSt w wr (w.heap.size + 1 + 1 + 1) (len1 + len2) (.bool neg1) (.slice (some ⟨b1, off1, none⟩) len1 cap1) (.bool neg2) (.slice (some ⟨b2, off2, none⟩) len2 cap2) (lo ++ hi))
  case atStart => exact ⟨0, [], List.replicate (len1 + len2) 0, Nat.zero_le _, rfl, rfl, ⟨rfl, by simp, dig_noughts _, fun k _ => nth_noughts _ k, rfl⟩, T0⟩
  case round =>
    obtain ⟨i, lo, hi, hil, rfl, rfl, hou, hst⟩ := hrel
    clear T0
    have HOU : Hid (Outer xs ys lo hi i (len1 + len2)) := hou
    have HST : Hid (TSt w wr (w.heap.size + 1 + 1 + 1) (len1 + len2) (.bool neg1) (.slice (some ⟨b1, off1, none⟩) len1 cap1) (.bool neg2) (.slice (some ⟨b2, off2, none⟩) len2 cap2) (lo ++ hi)) := hst
    have c11 := hst.box.c11
    have c21 := hst.box.c21
    have c10 := hst.box.c10
    have c20 := hst.box.c20
    clear hou hst
    by_cases hlt : i < len1
    · go_wp2
      go_loopg [7, 8, 9] len2 (fun gk co ko _ wr2 => ∃ (k : Nat) (c : Int) (dn rest : List Int), k ≤ len2 ∧ gk = len2 - k ∧ ko = .int .i64 k ∧ co = .int .i64 c ∧ Inner (nth xs i) ys hi dn rest k c ∧
        TSt w wr2 (w.heap.size + 1 + 1 + 1) (len1 + len2) (.bool neg1) (.slice (some ⟨b1, off1, none⟩) len1 cap1) (.bool neg2) (.slice (some ⟨b2, off2, none⟩) len2 cap2) (lo ++ (dn ++ rest)))
      case atStart => exact ⟨0, 0, [], hi, Nat.zero_le _, rfl, rfl, rfl, ⟨rfl, by simp, by decide, by decide, HOU.out.dig.right, HOU.out.noughts _ (by omega), rfl⟩, HST.out⟩
      case round =>
        obtain ⟨k, c, dn, rest, hkl, rfl, rfl, rfl, hin, hst2⟩ := hrel
        have e11 := hst2.box.c11
        have e21 := hst2.box.c21
        by_cases hk : k < len2
        · have hhl : ys.length < hi.length := by have := HOU.out.hlen; omega
          have hdx := HH1.out.row.dig.nth i
          have hdy := HH2.out.row.dig.nth k
          have hp := prod_le hdx hdy
          have hlow := hin.low
          have hhigh := hin.high
          have hdl := hin.dlen
          obtain ⟨o, rest', rfl, ho, hin'⟩ := hin.step hdx HH2.out.row.dig (by omega) hhl
          have HIN : Hid (Inner (nth xs i) ys hi (dn ++ [(o + nth xs i * nth ys k + c) % 1073741824]) rest' (k + 1) ((o + nth xs i * nth ys k + c) / 1073741824)) := hin'
          have HST2 : Hid (TSt w wr (w.heap.size + 1 + 1 + 1) (len1 + len2) (.bool neg1) (.slice (some ⟨b1, off1, none⟩) len1 cap1) (.bool neg2) (.slice (some ⟨b2, off2, none⟩) len2 cap2) (lo ++ (dn ++ o :: rest'))) := hst2
          have f1 : wr.cell? ⟨w.heap.size + 1 + 1 + 1, i + k, none⟩ = some (.int .i64 o) := by
            have := hst2.cell (i + k) (by omega)
            rwa [nth_mid HOU.out.llen hdl] at this
          have f2 := hst2.free (i + k)
          have f3 : wr.cell? ⟨b1, off1 + i, none⟩ = some (.int .i64 (nth xs i)) := by rw [hst2.box.old.cell (block_lt_of_cell (HC1.out i hlt))]; exact HC1.out i hlt
          have f4 : wr.cell? ⟨b2, off2 + k, none⟩ = some (.int .i64 (nth ys k)) := by rw [hst2.box.old.cell (block_lt_of_cell (HC2.out k hk))]; exact HC2.out k hk
          clear hin hin' hst2
          generalize nth xs i = dx at *
          generalize nth ys k = dy at *
          have hii : (i : Int) < (len1 : Int) := by omega
          have hkk : (k : Int) < (len2 : Int) := by omega
          have r1 : IntKind.i64.wrap ((i : Int) + (k : Int)) = (i : Int) + (k : Int) := by rw [IntKind.wrap_i64]; omega
          have r2 : IntKind.i64.wrap (dx * dy) = dx * dy := by rw [IntKind.wrap_i64]; omega
          have r3 : IntKind.i64.wrap (o + dx * dy) = o + dx * dy := by rw [IntKind.wrap_i64]; omega
          have r4 : IntKind.i64.wrap (o + dx * dy + c) = o + dx * dy + c := by rw [IntKind.wrap_i64]; omega
          have hik : (i : Int) + (k : Int) < (len1 : Int) + (len2 : Int) := by omega
          have hik0 : 0 ≤ (i : Int) + (k : Int) := by omega
          have htn : ((i : Int) + (k : Int)).toNat = i + k := by omega
          go_wp2
          go_quiet (fail)
          go_wp2
          go_roundg (len2 - (k + 1))
          case measure => omega
          case rel =>
            have hs := (HST2.out.drewN nq).store (i + k) ((o + dx * dy + c) % 1073741824)
            rw [set_mid HOU.out.llen hdl] at hs
            exact ⟨k + 1, _, _, rest', by omega, rfl, by go_num, rfl, HIN.out, hs⟩
        · have ek : k = len2 := by omega
          subst ek
          have hhl : ys.length < hi.length := by have := HOU.out.hlen; omega
          have hlow := hin.low
          have hhigh := hin.high
          have hdl := hin.dlen
          obtain ⟨rest', rfl, heq⟩ := hin.last z2.symm hhl
          rw [Int.zero_add] at heq
          obtain ⟨h0, ht, hrow, hou'⟩ := HOU.out.step HH2.out.row.dig HH1.out.row.dig (by omega) (by omega)
          rw [hrow] at heq
          have HOU2 : Hid (Outer xs ys (lo ++ [h0]) ht (i + 1) (len1 + k)) := hou'
          have HEQ : Hid (dn ++ c :: rest' = h0 :: ht) := heq
          have HST2 : Hid (TSt w wr (w.heap.size + 1 + 1 + 1) (len1 + k) (.bool neg1) (.slice (some ⟨b1, off1, none⟩) len1 cap1) (.bool neg2) (.slice (some ⟨b2, off2, none⟩) k cap2) (lo ++ (dn ++ 0 :: rest'))) := hst2
          have f1 : wr.cell? ⟨w.heap.size + 1 + 1 + 1, i + k, none⟩ = some (.int .i64 0) := by
            have := hst2.cell (i + k) (by omega)
            rwa [nth_mid HOU.out.llen hdl] at this
          have f2 := hst2.free (i + k)
          clear hin hou' hst2 heq hrow
          have r1 : IntKind.i64.wrap ((i : Int) + (k : Int)) = (i : Int) + (k : Int) := by rw [IntKind.wrap_i64]; omega
          have r2 : IntKind.i64.wrap c = c := by rw [IntKind.wrap_i64]; omega
          have hik : (i : Int) + (k : Int) < (len1 : Int) + (k : Int) := by omega
          have hik0 : 0 ≤ (i : Int) + (k : Int) := by omega
          have htn : ((i : Int) + (k : Int)).toNat = i + k := by omega
          go_wp2
          go_region
          go_wp2
          go_roundg (len1 - (i + 1))
          case measure => omega
          case rel =>
            have hs := (HST2.out.store (i + k) c).drew
            have e : lo ++ ((dn ++ [c]) ++ rest') = (lo ++ [h0]) ++ ht := by
              rw [List.append_assoc dn, List.append_assoc lo]
              show lo ++ (dn ++ c :: rest') = lo ++ (h0 :: ht)
              rw [HEQ.out]
            rw [set_mid HOU.out.llen hdl, e] at hs
            exact ⟨i + 1, lo ++ [h0], ht, by omega, rfl, by go_num, HOU2.out, hs⟩
    · have ei : i = len1 := by omega
      subst ei
      have hg := HOU.out.goal
      rw [drop_end xs i (by omega), timesL] at hg
      have hv : val (lo ++ hi) = val xs * val ys := by
        rw [hg, timesL_val (by simp; omega), val_noughts, Int.zero_add]
      have hrow : Row wr (some ⟨w.heap.size + 1 + 1 + 1, 0, none⟩) (i + len2) (i + len2) (lo ++ hi) := by
        refine ⟨HST.out.len, Or.inr ⟨_, _, rfl, fun k hk => ?_⟩, (fun e => by cases e), Nat.le_refl _, by omega, HOU.out.dig⟩
        rw [Nat.zero_add]
        exact HST.out.cell k (by have := HST.out.len; omega)
      have HR : Hid (Row wr (some ⟨w.heap.size + 1 + 1 + 1, 0, none⟩) (i + len2) (i + len2) (lo ++ hi)) := hrow
      have HV : Hid (val (lo ++ hi) = val xs * val ys) := hv
      have HW : Hid (∀ ds, val ds = val xs * val ys → (x * y = if (neg1 != neg2) then -val ds else val ds) ∧ ((neg1 != neg2) = true → ds ≠ [])) := by
        intro ds hds
        have p1 := norm_pos HH1.out.row.dig HH1.out.norm (by rintro rfl; simp at z1; omega)
        have p2 := norm_pos HH2.out.row.dig HH2.out.norm (by rintro rfl; simp at z2; omega)
        have p3 := Int.mul_pos p1 p2
        have k1 := HH1.out.worth
        have k2 := HH2.out.worth
        refine ⟨?_, fun _ e => by subst e; simp only [val] at hds; omega⟩
        rw [k1, k2, hds]
        cases neg1 <;> cases neg2 <;> simp [Int.mul_neg, Int.neg_mul]
      have d30 := HST.out.box.c30
      have d31 := HST.out.box.c31
      have e30 := HST.out.box.f30
      have e31 := HST.out.box.f31
      clear hg hv hrow
      go_wp2
      go_region_with (go_at_call 184; refine (trim_any _ _ _ _ _ (HR.out.below (Below.refl _ _).drew)).mono ?_; rintro e w' ⟨n', rfl, rfl, r1, r2, r3⟩)
      all_goals
        have HF := wh_end HST.out.box.drew r1 r3 (HW.out _ (r2.trans HV.out)).1 (HW.out _ (r2.trans HV.out)).2
        go_wp2
        exact bodyPost_ret (v := .agg #[.bool (neg1 != neg2), .slice (some ⟨w.heap.size + 1 + 1 + 1, 0, none⟩) n' (i + len2)]) (by simp [results, Tryz.results168, go_sem, d30, d31]; cases neg1 <;> cases neg2 <;> rfl) rfl ⟨_, _, n', _, _, rfl, HF.1, HF.2, by have := r1.room; omega⟩
/-- A product of two numbers of any length. -/
theorem times_any (neg1 neg2 : Bool) (a1 a2 : Option Addr) (len1 len2 cap1 cap2 : Nat) (xs ys : List Int) (x y : Int) (w : World) (h1 : Wh w neg1 a1 len1 cap1 xs x) (h2 : Wh w neg2 a2 len2 cap2 ys y) (hsum : len1 + len2 < 1000000000) :
    Calls Tryz.prog 168 #[.agg #[.bool neg1, .slice a1 len1 cap1], .agg #[.bool neg2, .slice a2 len2 cap2]] w (MadeWh w (x * y) (len1 + len2)) := by
  have z1 := h1.row.size
  have z2 := h2.row.size
  by_cases h0 : len1 = 0 ∨ len2 = 0
  · exact times_zero neg1 neg2 a1 a2 len1 len2 cap1 cap2 xs ys x y w h1 h2 h0
  · obtain ⟨b1, off1, rfl, hc1⟩ := h1.row.lies.resolve_left (by rintro rfl; simp at z1; omega)
    obtain ⟨b2, off2, rfl, hc2⟩ := h2.row.lies.resolve_left (by rintro rfl; simp at z2; omega)
    rw [z1] at hc1
    rw [z2] at hc2
    exact times_some neg1 neg2 b1 off1 b2 off2 len1 len2 cap1 cap2 xs ys x y w h1 h2 (by omega) (by omega) hsum hc1 hc2
/-- Memory while an int's digits are gathered: the result's place, the number that grows, and what its digits own. -/
structure OfSt (w wr : World) (neg : Bool) (v : Value) (i : Nat) (os : List Int) : Prop where
  c10 : wr.cell? ⟨w.heap.size, 0, none⟩ = some (.bool false)
  c11 : wr.cell? ⟨w.heap.size, 1, none⟩ = some (.slice none 0 0)
  f10 : wr.frozen? ⟨w.heap.size, 0, none⟩ = false
  f11 : wr.frozen? ⟨w.heap.size, 1, none⟩ = false
  c20 : wr.cell? ⟨w.heap.size + 1, 0, none⟩ = some (.bool neg)
  c21 : wr.cell? ⟨w.heap.size + 1, 1, none⟩ = some v
  f21 : wr.frozen? ⟨w.heap.size + 1, 1, none⟩ = false
  own : wr.ownsRow (w.heap.size + 2) 3 1 v i (os.map (Value.int .i64))
  size : w.heap.size + 2 ≤ wr.heap.size
  old : Below w.heap.size w wr
theorem ofSt_first (w : World) (neg : Bool) (t1 t2 : TypeId) : OfSt w ((w.alloc (.cells #[.bool false, .slice none 0 0] t1)).alloc (.cells #[.bool neg, .slice none 0 0] t2)) neg (.slice none 0 0) 0 [] := by
  have s1 : (w.alloc (.cells #[.bool false, .slice none 0 0] t1)).heap.size = w.heap.size + 1 := by simp
  have p1 := pair_new_k (V := w) (x := .bool false) (y := .slice none 0 0) (t := t1) rfl
  have p2 := pair_new_k (V := w.alloc (.cells #[.bool false, .slice none 0 0] t1)) (x := .bool neg) (y := .slice none 0 0) (t := t2) s1.symm
  have hf : ∀ k, ((w.alloc (.cells #[.bool false, .slice none 0 0] t1)).alloc (.cells #[.bool neg, .slice none 0 0] t2)).frozen? ⟨w.heap.size, k, none⟩ = (w.alloc (.cells #[.bool false, .slice none 0 0] t1)).frozen? ⟨w.heap.size, k, none⟩ :=
    fun k => ((Below.refl _ (w.alloc (.cells #[.bool false, .slice none 0 0] t1))).alloc (Nat.le_refl _) _).frozen (p := ⟨w.heap.size, k, none⟩) (by rw [s1]; exact Nat.lt_succ_self _)
  refine ⟨?_, ?_, ?_, ?_, p2.1, p2.2.1, p2.2.2.2, World.ownsRow_nil _ _ _ _, by simp, ((Below.refl _ _).alloc (Nat.le_refl _) _).alloc (by rw [s1]; omega) _⟩
  · rw [cell_old (by rw [s1]; omega)]; exact p1.1
  · rw [cell_old (by rw [s1]; omega)]; exact p1.2.1
  · rw [hf]; exact p1.2.2.1
  · rw [hf]; exact p1.2.2.2
theorem own_block2 {w : World} {base n : Nat} {v : Value} {xs : List Value} (h : w.ownsRow base 3 1 v n xs) : ∀ k, v.ownBlock = some k → base ≤ k := by
  intro k hk
  rcases h.2 with ⟨hv, -⟩ | ⟨g, cap, cur, hv, hg, -⟩
  · rw [hv] at hk; cases hk
  · rw [hv] at hk; cases hk; exact hg
/-- Behind the append, ahead of the store. -/
theorem OfSt.mid {w wr w1 : World} {neg : Bool} {v : Value} {i : Nat} {os : List Int} {s : Int} (h : OfSt w wr neg v i os) (hgrow : (wr.alloc (.cells #[.int .i64 s] 3)).grownBy w1 v.ownBlock) :
    Below (w.heap.size + 2) wr w1 :=
  ((Below.refl _ _).alloc h.size _).grown hgrow (by have := h.size; simp; omega) (own_block2 h.own)
theorem OfSt.step {w wr w1 : World} {neg : Bool} {v v' : Value} {i : Nat} {os : List Int} {s : Int} (h : OfSt w wr neg v i os) (hown' : w1.ownsRow (w.heap.size + 2) 3 1 v' (i + 1) (os.map (Value.int .i64) ++ [.int .i64 s]))
    (hgrow : (wr.alloc (.cells #[.int .i64 s] 3)).grownBy w1 v.ownBlock) : OfSt w (w1.setCell ⟨w.heap.size + 1, 1, none⟩ v') neg v' (i + 1) (os ++ [s]) := by
  have m := h.mid hgrow
  have k : ∀ b o, b < w.heap.size + 2 → w1.cell? ⟨b, o, none⟩ = wr.cell? ⟨b, o, none⟩ := fun b o hb => m.cell (p := ⟨b, o, none⟩) hb
  have f : ∀ b o, b < w.heap.size + 2 → w1.frozen? ⟨b, o, none⟩ = wr.frozen? ⟨b, o, none⟩ := fun b o hb => m.frozen (p := ⟨b, o, none⟩) hb
  have fs : ∀ p : Addr, (w1.setCell ⟨w.heap.size + 1, 1, none⟩ v').frozen? p = w1.frozen? p := fun p => World.frozen?_setCell _ _ _ _
  refine ⟨?_, ?_, ?_, ?_, ?_, ?_, ?_, ?_, ?_, ?_⟩
  · rw [World.cell?_setCell_other _ _ _ _ (by simp), k _ _ (by omega)]; exact h.c10
  · rw [World.cell?_setCell_other _ _ _ _ (by simp), k _ _ (by omega)]; exact h.c11
  · rw [fs, f _ _ (by omega)]; exact h.f10
  · rw [fs, f _ _ (by omega)]; exact h.f11
  · rw [World.cell?_setCell_other _ _ _ _ (by simp), k _ _ (by omega)]; exact h.c20
  · exact World.cell?_setCell_same _ _ _ (by rw [k _ _ (by omega)]; exact h.c21)
  · rw [fs, f _ _ (by omega)]; exact h.f21
  · exact ownsRow_setCell_below (by rw [List.map_append]; exact hown') (by simp) _
  · have h1 := m.size
    have h2 := h.size
    simp [World.setCell]
    omega
  · exact (h.old.trans (m.mono (by omega))).setCell (by simp) _
/-- The end: the number is copied into the result's place. -/
theorem OfSt.done {w wr : World} {neg : Bool} {a : Option Addr} {cap i : Nat} {os : List Int} {n : Int} (h : OfSt w wr neg (.slice a i cap) i os) (hl : os.length = i) (hat : At wr a os) (hno : a = none → i = 0 ∧ cap = 0) (hr : i ≤ cap) (h3 : i ≤ 3)
    (hd : Dig os) (hn : Norm os) (hw : n = if neg then -val os else val os) (hs : neg = true → os ≠ []) :
    MadeWh w n 3 (.returned (.agg #[.bool neg, .slice a i cap])) ((wr.setCell ⟨w.heap.size, 0, none⟩ (.bool neg)).setCell ⟨w.heap.size, 1, none⟩ (.slice a i cap)) := by
  have k1 : (wr.setCell ⟨w.heap.size, 0, none⟩ (.bool neg)).cell? ⟨w.heap.size, 1, none⟩ = some (.slice none 0 0) := by
    rw [World.cell?_setCell_other _ _ _ _ (by simp)]; exact h.c11
  have hat2 := (hat.store (v := .bool neg) h.c10 (fun n h => by cases h)).store (v := .slice a i cap) k1 (fun n h => by cases h)
  exact ⟨neg, a, i, cap, os, rfl, ⟨⟨hl, hat2, hno, hr, by omega, hd⟩, hn, hw, hs⟩, (h.old.setCell (by simp) _).setCell (by simp) _, h3⟩
theorem owns_slice {w : World} {base n : Nat} {v : Value} {xs : List Value} (h : w.ownsRow base 3 1 v n xs) : ∃ a cap, v = .slice a n cap := by
  rcases h.2 with ⟨hv, hn⟩ | ⟨g, cap, cur, hv, -⟩
  · exact ⟨none, 0, by rw [hv, hn]⟩
  · exact ⟨_, cap, hv⟩
set_option maxRecDepth 100000 in
set_option maxHeartbeats 1000000 in
theorem of_pos (n : Nat) (w : World) (hn : n ≤ 9223372036854775807) :
    Calls Tryz.prog 169 #[.int .i64 n] w (MadeWh w n 3) := by
  obtain ⟨i0, hi, hz0, hz1, hz2⟩ := info_parts Tryz.info3
  have hlen := ofL_len (n := n) (by omega)
  have HO := ofSt_first w false 228 228
  have hsg : ¬ (n : Int) < 0 := by omega
  go_enter Tryz.func169, Tryz.ntmps169
  go_wp2
  go_loopg [0, 4] n (fun gk t _ wr => ∃ (i : Nat) (a : Option Addr) (cap : Nat) (os : List Int), gk ≤ n ∧ t = .int .i64 gk ∧ os.length = i ∧ os ++ ofL gk = ofL n ∧ OfSt w wr false (.slice a i cap) i os)
  case atStart => exact ⟨0, none, 0, [], Nat.le_refl _, rfl, rfl, rfl, HO⟩
  case round =>
    obtain ⟨i, a, cap, os, hmn, rfl, hos, heq, hst⟩ := hrel
    clear HO hsg
    have HEQ : Hid (os ++ ofL gk = ofL n) := heq
    have HOS : Hid (os.length = i) := hos
    have HST : Hid (OfSt w wr false (.slice a i cap) i os) := hst
    have hi3 : i ≤ 3 := by have := congrArg List.length heq; rw [List.length_append, hos] at this; omega
    have c20 := hst.c20
    have c21 := hst.c21
    have f21 := hst.f21
    have c10 := hst.c10
    have c11 := hst.c11
    have f10 := hst.f10
    have f11 := hst.f11
    have hown := hst.own
    have hsz := hst.size
    clear heq hos hst
    by_cases h0 : gk = 0
    · subst h0
      obtain ⟨a', cap', hv, hl', hat', hcp', hn', -⟩ := owns_at hown
      cases hv
      clear hown
      go_wp2
      have e := HEQ.out
      rw [ofL_zero, List.append_nil] at e
      obtain ⟨v1, v2, v3⟩ := ofL_all n
      exact bodyPost_ret (v := .agg #[.bool false, .slice a i cap]) (by simp [results, Tryz.results169, go_sem, c10, c11]) rfl (HST.out.done HOS.out hat' hn' hcp' hi3 (by rw [e]; exact v2) (by rw [e]; exact v3) (by rw [e]; simp [v1]) (fun h => by cases h))
    · have hm0 : (gk == (0 : Int)) = false := by simp; omega
      have hmd : gk / 1073741824 < gk := by omega
      have HL : Hid (ofL gk = ((gk % 1073741824 : Nat) : Int) :: ofL (gk / 1073741824)) := ofL_pos h0
      have hd0 : ¬ ((gk : Int) % 1073741824 < 0) := by omega
      go_wp2_with (at_builtin; refine wpList_append_own _ rfl (.tmp 17) (.tmp 19) 60 rfl (w.heap.size + 2) 3 i0 (.int .i64 0) 1 8 Tryz.underlying60 hi hz0 hz1 hz2 rfl (by decide) (.slice a i cap) i _ rfl (hown.alloc _) ⟨wr.heap.size, 0, none⟩ 1 1 [.int .i64 _] rfl rfl (one_new _ _ _) (one_cell _) (by unfold maxLen; omega) (by omega) (by simp; omega) ?_; intro v' w1 hown' hgrow _; obtain ⟨a', cap', hv'⟩ := owns_slice hown'; subst hv'; have hmid := HST.out.mid hgrow; have k21 : w1.cell? ⟨w.heap.size + 1, 1, none⟩ = some (.slice a i cap) := (hmid.cell (p := ⟨w.heap.size + 1, 1, none⟩) (Nat.lt_succ_self _)).trans HST.out.c21; have g21 : w1.frozen? ⟨w.heap.size + 1, 1, none⟩ = false := (hmid.frozen (p := ⟨w.heap.size + 1, 1, none⟩) (Nat.lt_succ_self _)).trans HST.out.f21)
      go_roundg (gk / 1073741824)
      case measure => exact hmd
      case rel => exact ⟨i + 1, a', cap', os ++ [_], by omega, rfl, by simp [HOS.out], by rw [List.append_assoc]; show os ++ (_ :: ofL (gk / 1073741824)) = _; rw [← HEQ.out, HL.out]; rfl, HST.out.step hown' hgrow⟩
set_option maxRecDepth 100000 in
set_option maxHeartbeats 1000000 in
theorem of_neg (n : Nat) (w : World) (hn : n ≤ 9223372036854775808) (hpos : 0 < n) :
    Calls Tryz.prog 169 #[.int .i64 (-(n : Int))] w (MadeWh w (-(n : Int)) 3) := by
  obtain ⟨i0, hi, hz0, hz1, hz2⟩ := info_parts Tryz.info3
  have hlen := ofL_len (n := n) (by omega)
  have HO := ofSt_first w true 228 228
  have hsg : ((-(n : Int)) : Int) < 0 := by omega
  go_enter Tryz.func169, Tryz.ntmps169
  go_wp2
  go_loopg [0, 4] n (fun gk t _ wr => ∃ (i : Nat) (a : Option Addr) (cap : Nat) (os : List Int), gk ≤ n ∧ t = .int .i64 (-(gk : Int)) ∧ os.length = i ∧ os ++ ofL gk = ofL n ∧ OfSt w wr true (.slice a i cap) i os)
  case atStart => exact ⟨0, none, 0, [], Nat.le_refl _, rfl, rfl, rfl, HO⟩
  case round =>
    obtain ⟨i, a, cap, os, hmn, rfl, hos, heq, hst⟩ := hrel
    clear HO hsg
    have HEQ : Hid (os ++ ofL gk = ofL n) := heq
    have HOS : Hid (os.length = i) := hos
    have HST : Hid (OfSt w wr true (.slice a i cap) i os) := hst
    have hi3 : i ≤ 3 := by have := congrArg List.length heq; rw [List.length_append, hos] at this; omega
    have c20 := hst.c20
    have c21 := hst.c21
    have f21 := hst.f21
    have c10 := hst.c10
    have c11 := hst.c11
    have f10 := hst.f10
    have f11 := hst.f11
    have hown := hst.own
    have hsz := hst.size
    clear heq hos hst
    by_cases h0 : gk = 0
    · subst h0
      obtain ⟨a', cap', hv, hl', hat', hcp', hn', -⟩ := owns_at hown
      cases hv
      clear hown
      go_wp2
      have e := HEQ.out
      rw [ofL_zero, List.append_nil] at e
      obtain ⟨v1, v2, v3⟩ := ofL_all n
      exact bodyPost_ret (v := .agg #[.bool true, .slice a i cap]) (by simp [results, Tryz.results169, go_sem, c10, c11]) rfl (HST.out.done HOS.out hat' hn' hcp' hi3 (by rw [e]; exact v2) (by rw [e]; exact v3) (by rw [e]; simp [v1]) (fun _ e2 => by rw [e2] at e; rw [← e] at v1; simp [val] at v1; omega))
    · have hm0 : ((-(gk : Int)) == (0 : Int)) = false := by simp; omega
      have hmd : gk / 1073741824 < gk := by omega
      have HL : Hid (ofL gk = ((gk % 1073741824 : Nat) : Int) :: ofL (gk / 1073741824)) := ofL_pos h0
      have ht1 : (-(gk : Int)).tmod 1073741824 = -((gk % 1073741824 : Nat) : Int) := by rw [Int.neg_tmod]; rfl
      have ht2 : (-(gk : Int)).tdiv 1073741824 = -((gk / 1073741824 : Nat) : Int) := by rw [Int.neg_tdiv]; rfl
      have hq1 : gk / 1073741824 ≤ 9223372036854775807 := by omega
      have hr1 : gk % 1073741824 < 1073741824 := by omega
      by_cases hr0 : gk % 1073741824 = 0
      · have hz : -((gk : Int) % 1073741824) = ((gk % 1073741824 : Nat) : Int) := by omega
        have HZ : Hid (-((gk : Int) % 1073741824) = ((gk % 1073741824 : Nat) : Int)) := hz
        have hd0 : ¬ (0 < (gk : Int) % 1073741824) := by omega
        clear hz hr0
        go_wp2_with (at_builtin; refine wpList_append_own _ rfl (.tmp 17) (.tmp 19) 60 rfl (w.heap.size + 2) 3 i0 (.int .i64 0) 1 8 Tryz.underlying60 hi hz0 hz1 hz2 rfl (by decide) (.slice a i cap) i _ rfl (hown.alloc _) ⟨wr.heap.size, 0, none⟩ 1 1 [.int .i64 _] rfl rfl (one_new _ _ _) (one_cell _) (by unfold maxLen; omega) (by omega) (by simp; omega) ?_; intro v' w1 hown' hgrow _; obtain ⟨a', cap', hv'⟩ := owns_slice hown'; subst hv'; have hmid := HST.out.mid hgrow; have k21 : w1.cell? ⟨w.heap.size + 1, 1, none⟩ = some (.slice a i cap) := (hmid.cell (p := ⟨w.heap.size + 1, 1, none⟩) (Nat.lt_succ_self _)).trans HST.out.c21; have g21 : w1.frozen? ⟨w.heap.size + 1, 1, none⟩ = false := (hmid.frozen (p := ⟨w.heap.size + 1, 1, none⟩) (Nat.lt_succ_self _)).trans HST.out.f21)
        go_roundg (gk / 1073741824)
        case measure => exact hmd
        case rel => exact ⟨i + 1, a', cap', os ++ [_], by omega, by first | rfl | go_num, by simp [HOS.out], by rw [List.append_assoc]; show os ++ (-((gk : Int) % 1073741824) :: ofL (gk / 1073741824)) = _; rw [← HEQ.out, HL.out, HZ.out], HST.out.step hown' hgrow⟩
      · have hd0 : -((gk % 1073741824 : Nat) : Int) < 0 := by omega
        go_wp2_with (at_builtin; refine wpList_append_own _ rfl (.tmp 17) (.tmp 19) 60 rfl (w.heap.size + 2) 3 i0 (.int .i64 0) 1 8 Tryz.underlying60 hi hz0 hz1 hz2 rfl (by decide) (.slice a i cap) i _ rfl (hown.alloc _) ⟨wr.heap.size, 0, none⟩ 1 1 [.int .i64 _] rfl rfl (one_new _ _ _) (one_cell _) (by unfold maxLen; omega) (by omega) (by simp; omega) ?_; intro v' w1 hown' hgrow _; obtain ⟨a', cap', hv'⟩ := owns_slice hown'; subst hv'; have hmid := HST.out.mid hgrow; have k21 : w1.cell? ⟨w.heap.size + 1, 1, none⟩ = some (.slice a i cap) := (hmid.cell (p := ⟨w.heap.size + 1, 1, none⟩) (Nat.lt_succ_self _)).trans HST.out.c21; have g21 : w1.frozen? ⟨w.heap.size + 1, 1, none⟩ = false := (hmid.frozen (p := ⟨w.heap.size + 1, 1, none⟩) (Nat.lt_succ_self _)).trans HST.out.f21)
        go_roundg (gk / 1073741824)
        case measure => exact hmd
        case rel => exact ⟨i + 1, a', cap', os ++ [_], by omega, by first | rfl | go_num, by simp [HOS.out], by rw [List.append_assoc]; show os ++ (_ :: ofL (gk / 1073741824)) = _; rw [← HEQ.out, HL.out]; rfl, HST.out.step hown' hgrow⟩
/-- An int as a number of any length. -/
theorem of_any (n : Int) (w : World) (hn : -9223372036854775808 ≤ n ∧ n ≤ 9223372036854775807) :
    Calls Tryz.prog 169 #[.int .i64 n] w (MadeWh w n 3) := by
  by_cases h : n < 0
  · have := of_neg n.natAbs w (by omega) (by omega)
    rwa [show -((n.natAbs : Nat) : Int) = n by omega] at this
  · have := of_pos n.natAbs w (by omega)
    rwa [show ((n.natAbs : Nat) : Int) = n by omega] at this
set_option maxRecDepth 100000 in
set_option maxHeartbeats 1000000 in
theorem plus_same (neg : Bool) (a1 a2 : Option Addr) (len1 len2 cap1 cap2 : Nat) (xs ys : List Int) (x y : Int) (w : World) (h1 : Wh w neg a1 len1 cap1 xs x) (h2 : Wh w neg a2 len2 cap2 ys y) (hsum : len1 + len2 < 1000000000) :
    Calls Tryz.prog 167 #[.agg #[.bool neg, .slice a1 len1 cap1], .agg #[.bool neg, .slice a2 len2 cap2]] w (MadeWh w (x + y) (len1 + len2 + 1)) := by
  have HA : Hid (∀ w', Below w.heap.size w w' → Calls Tryz.prog 181 #[.slice a1 len1 cap1, .slice a2 len2 cap2] w' (MadeRow w' (val xs + val ys) (len1 + len2 + 1))) :=
    fun w' hb => addRow_any a1 a2 len1 len2 cap1 cap2 xs ys w' (h1.row.below hb) (h2.row.below hb) hsum
  have hq : (neg == neg) = true := by simp
  have HB := boxes_first w (.bool neg) (.slice a1 len1 cap1) (.bool neg) (.slice a2 len2 cap2) (.bool false) (.slice none 0 0) 228 228 228
  have HW : Hid (∀ ds, val ds = val xs + val ys → (x + y = if neg then -val ds else val ds) ∧ (neg = true → ds ≠ [])) := by
    intro ds hds
    cases neg
    · have := h1.pos.1
      have := h2.pos.1
      exact ⟨by simp; omega, fun h => by cases h⟩
    · have := h1.neg
      have := h2.neg
      exact ⟨by simp; omega, fun _ e => by subst e; simp [val] at hds; omega⟩
  clear h1 h2
  go_enter Tryz.func167, Tryz.ntmps167
  go_wp2
  generalize hW : (((w.alloc _).alloc _).alloc _ : World) = W at *
  clear hW
  have c10 := HB.c10
  have c11 := HB.c11
  have c21 := HB.c21
  have c30 := HB.c30
  have c31 := HB.c31
  have f30 := HB.f30
  have f31 := HB.f31
  go_region_with (go_at_call 181; refine (HA.out _ HB.drew.old).mono ?_; rintro e w' ⟨a', n', cap', ds', rfl, r1, r2, r3, r4, r5⟩; have d10 := (HB.drew.later r4).c10; have d30 := (HB.drew.later r4).c30; have d31 := (HB.drew.later r4).c31; have e30 := (HB.drew.later r4).f30; have e31 := (HB.drew.later r4).f31)
  all_goals
    have HF := wh_end (HB.drew.later r4) r1 r2 (HW.out _ r3).1 (HW.out _ r3).2
    go_wp2
    exact bodyPost_ret (v := .agg #[.bool neg, .slice a' n' cap']) (by simp [results, Tryz.results167, go_sem, d30, d31]) rfl ⟨neg, a', n', cap', ds', rfl, HF.1, HF.2, r5⟩
set_option maxRecDepth 100000 in
set_option maxHeartbeats 1000000 in
theorem plus_gt (neg : Bool) (a1 a2 : Option Addr) (len1 len2 cap1 cap2 : Nat) (xs ys : List Int) (x y : Int) (w : World) (h1 : Wh w neg a1 len1 cap1 xs x) (h2 : Wh w (!neg) a2 len2 cap2 ys y) (hc : val ys < val xs) :
    Calls Tryz.prog 167 #[.agg #[.bool neg, .slice a1 len1 cap1], .agg #[.bool (!neg), .slice a2 len2 cap2]] w (MadeWh w (x + y) (len1 + len2 + 1)) := by
  have HS : Hid (∀ w', Below w.heap.size w w' → Calls Tryz.prog 182 #[.slice a1 len1 cap1, .slice a2 len2 cap2] w' (fun e w'' => ∃ n : Nat, e = .returned (.int .i64 1) ∧ w'' = w'.drewN n)) :=
    fun w' hb => (size_any a1 a2 len1 len2 cap1 cap2 xs ys w' (h1.row.below hb) (h2.row.below hb) h1.norm h2.norm).mono (fun e w'' ⟨n, k1, k2⟩ => ⟨n, by rw [k1, cmpI_gt hc], k2⟩)
  have hq : (neg == !neg) = false := by cases neg <;> rfl
  have HB := boxes_first w (.bool neg) (.slice a1 len1 cap1) (.bool (!neg)) (.slice a2 len2 cap2) (.bool false) (.slice none 0 0) 228 228 228
  have HA : Hid (∀ w', Below w.heap.size w w' → Calls Tryz.prog 183 #[.slice a1 len1 cap1, .slice a2 len2 cap2] w' (MadeRow w' (val xs - val ys) len1)) :=
    fun w' hb => lessRow_any a1 a2 len1 len2 cap1 cap2 xs ys w' (h1.row.below hb) (h2.row.below hb) (by omega)
  have HW : Hid (∀ ds, val ds = val xs - val ys → (x + y = if neg then -val ds else val ds) ∧ (neg = true → ds ≠ [])) := by
    intro ds hds
    cases neg
    · have := h1.pos.1
      have := h2.neg.1
      exact ⟨by simp; omega, fun h => by cases h⟩
    · have := h1.neg
      have := h2.pos
      exact ⟨by simp; omega, fun _ e => by subst e; simp [val] at hds; omega⟩
  clear h1 h2 hc
  go_enter Tryz.func167, Tryz.ntmps167
  go_wp2_with (go_at_call 182; refine (HS.out _ HB.old).mono ?_; rintro e w' ⟨n, rfl, rfl⟩)
  generalize hW : (((w.alloc _).alloc _).alloc _ : World) = W at *
  clear hW
  have HB2 := HB.later (bdrew (Below.refl _ _) n)
  clear HB
  generalize hW : W.drewN n = W2 at *
  clear hW
  have c10 := HB2.c10
  have c11 := HB2.c11
  have c21 := HB2.c21
  have c30 := HB2.c30
  have c31 := HB2.c31
  have f30 := HB2.f30
  have f31 := HB2.f31
  go_region_with (go_at_call 183; refine (HA.out _ HB2.drew.old).mono ?_; rintro e w' ⟨a', n', cap', ds', rfl, r1, r2, r3, r4, r5⟩; have d10 := (HB2.drew.later r4).c10; have d30 := (HB2.drew.later r4).c30; have d31 := (HB2.drew.later r4).c31; have e30 := (HB2.drew.later r4).f30; have e31 := (HB2.drew.later r4).f31)
  all_goals
    have HF := wh_end (HB2.drew.later r4) r1 r2 (HW.out _ r3).1 (HW.out _ r3).2
    go_wp2
    exact bodyPost_ret (v := .agg #[.bool neg, .slice a' n' cap']) (by simp [results, Tryz.results167, go_sem, d30, d31]) rfl ⟨neg, a', n', cap', ds', rfl, HF.1, HF.2, by omega⟩
set_option maxRecDepth 100000 in
set_option maxHeartbeats 1000000 in
theorem plus_lt (neg : Bool) (a1 a2 : Option Addr) (len1 len2 cap1 cap2 : Nat) (xs ys : List Int) (x y : Int) (w : World) (h1 : Wh w neg a1 len1 cap1 xs x) (h2 : Wh w (!neg) a2 len2 cap2 ys y) (hc : val xs < val ys) :
    Calls Tryz.prog 167 #[.agg #[.bool neg, .slice a1 len1 cap1], .agg #[.bool (!neg), .slice a2 len2 cap2]] w (MadeWh w (x + y) (len1 + len2 + 1)) := by
  have HS : Hid (∀ w', Below w.heap.size w w' → Calls Tryz.prog 182 #[.slice a1 len1 cap1, .slice a2 len2 cap2] w' (fun e w'' => ∃ n : Nat, e = .returned (.int .i64 (-1)) ∧ w'' = w'.drewN n)) :=
    fun w' hb => (size_any a1 a2 len1 len2 cap1 cap2 xs ys w' (h1.row.below hb) (h2.row.below hb) h1.norm h2.norm).mono (fun e w'' ⟨n, k1, k2⟩ => ⟨n, by rw [k1, cmpI_lt hc], k2⟩)
  have hq : (neg == !neg) = false := by cases neg <;> rfl
  have HB := boxes_first w (.bool neg) (.slice a1 len1 cap1) (.bool (!neg)) (.slice a2 len2 cap2) (.bool false) (.slice none 0 0) 228 228 228
  have HA : Hid (∀ w', Below w.heap.size w w' → Calls Tryz.prog 183 #[.slice a2 len2 cap2, .slice a1 len1 cap1] w' (MadeRow w' (val ys - val xs) len2)) :=
    fun w' hb => lessRow_any a2 a1 len2 len1 cap2 cap1 ys xs w' (h2.row.below hb) (h1.row.below hb) (by omega)
  have HW : Hid (∀ ds, val ds = val ys - val xs → (x + y = if !neg then -val ds else val ds) ∧ ((!neg) = true → ds ≠ [])) := by
    intro ds hds
    cases neg
    · have := h1.pos.1
      have := h2.neg.1
      exact ⟨by simp; omega, fun _ e => by subst e; simp [val] at hds; omega⟩
    · have := h1.neg
      have := h2.pos
      exact ⟨by simp; omega, fun h => by cases h⟩
  clear h1 h2 hc
  generalize (!neg) = pos at *
  go_enter Tryz.func167, Tryz.ntmps167
  go_wp2_with (go_at_call 182; refine (HS.out _ HB.old).mono ?_; rintro e w' ⟨n, rfl, rfl⟩)
  generalize hW : (((w.alloc _).alloc _).alloc _ : World) = W at *
  clear hW
  have HB2 := HB.later (bdrew (Below.refl _ _) n)
  clear HB
  generalize hW : W.drewN n = W2 at *
  clear hW
  have c20 := HB2.c20
  have c11 := HB2.c11
  have c21 := HB2.c21
  have c30 := HB2.c30
  have c31 := HB2.c31
  have f30 := HB2.f30
  have f31 := HB2.f31
  go_region_with (go_at_call 183; refine (HA.out _ HB2.drew.old).mono ?_; rintro e w' ⟨a', n', cap', ds', rfl, r1, r2, r3, r4, r5⟩; have d20 := (HB2.drew.later r4).c20; have d30 := (HB2.drew.later r4).c30; have d31 := (HB2.drew.later r4).c31; have e30 := (HB2.drew.later r4).f30; have e31 := (HB2.drew.later r4).f31)
  all_goals
    have HF := wh_end (HB2.drew.later r4) r1 r2 (HW.out _ r3).1 (HW.out _ r3).2
    go_wp2
    exact bodyPost_ret (v := .agg #[.bool pos, .slice a' n' cap']) (by simp [results, Tryz.results167, go_sem, d30, d31]) rfl ⟨pos, a', n', cap', ds', rfl, HF.1, HF.2, by omega⟩
set_option maxRecDepth 100000 in
set_option maxHeartbeats 1000000 in
theorem plus_eq (neg : Bool) (a1 a2 : Option Addr) (len1 len2 cap1 cap2 : Nat) (xs ys : List Int) (x y : Int) (w : World) (h1 : Wh w neg a1 len1 cap1 xs x) (h2 : Wh w (!neg) a2 len2 cap2 ys y) (hc : val xs = val ys) :
    Calls Tryz.prog 167 #[.agg #[.bool neg, .slice a1 len1 cap1], .agg #[.bool (!neg), .slice a2 len2 cap2]] w (MadeWh w (x + y) (len1 + len2 + 1)) := by
  have HS : Hid (∀ w', Below w.heap.size w w' → Calls Tryz.prog 182 #[.slice a1 len1 cap1, .slice a2 len2 cap2] w' (fun e w'' => ∃ n : Nat, e = .returned (.int .i64 0) ∧ w'' = w'.drewN n)) :=
    fun w' hb => (size_any a1 a2 len1 len2 cap1 cap2 xs ys w' (h1.row.below hb) (h2.row.below hb) h1.norm h2.norm).mono (fun e w'' ⟨n, k1, k2⟩ => ⟨n, by rw [k1, cmpI_eq hc], k2⟩)
  have hq : (neg == !neg) = false := by cases neg <;> rfl
  have HB := boxes_first w (.bool neg) (.slice a1 len1 cap1) (.bool (!neg)) (.slice a2 len2 cap2) (.bool false) (.slice none 0 0) 228 228 228
  have HZ : Hid (x + y = 0) := by
    show x + y = 0
    cases neg
    · have := h1.pos.1; have := h2.neg.1; omega
    · have := h1.neg.1; have := h2.pos.1; omega
  clear h1 h2 hc
  go_enter Tryz.func167, Tryz.ntmps167
  go_wp2_with (go_at_call 182; refine (HS.out _ HB.old).mono ?_; rintro e w' ⟨n, rfl, rfl⟩)
  have hB := HB.later (bdrew (Below.refl _ _) n)
  have d30 := hB.c30
  have d31 := hB.c31
  have HF := wh_end (a := none) (len := 0) (cap := 0) (ds := []) (neg := false) (n := x + y) hB ⟨rfl, Or.inl rfl, fun _ => ⟨rfl, rfl⟩, Nat.le_refl _, by decide, dig_nil⟩ (fun h => absurd rfl h) (by simp [val]; exact HZ.out) (fun h => by cases h)
  exact bodyPost_ret (v := .agg #[.bool false, .slice none 0 0]) (by simp [results, Tryz.results167, go_sem]) rfl ⟨false, none, 0, 0, [], rfl, HF.1, HF.2, by omega⟩
theorem plus_any (neg1 neg2 : Bool) (a1 a2 : Option Addr) (len1 len2 cap1 cap2 : Nat) (xs ys : List Int) (x y : Int) (w : World) (h1 : Wh w neg1 a1 len1 cap1 xs x) (h2 : Wh w neg2 a2 len2 cap2 ys y) (hsum : len1 + len2 < 1000000000) :
    Calls Tryz.prog 167 #[.agg #[.bool neg1, .slice a1 len1 cap1], .agg #[.bool neg2, .slice a2 len2 cap2]] w (MadeWh w (x + y) (len1 + len2 + 1)) := by
  by_cases e : neg1 = neg2
  · subst e
    exact plus_same neg1 a1 a2 len1 len2 cap1 cap2 xs ys x y w h1 h2 hsum
  · have e' : neg2 = !neg1 := by cases neg1 <;> cases neg2 <;> simp_all
    subst e'
    rcases Int.lt_trichotomy (val xs) (val ys) with h | h | h
    · exact plus_lt neg1 a1 a2 len1 len2 cap1 cap2 xs ys x y w h1 h2 h
    · exact plus_eq neg1 a1 a2 len1 len2 cap1 cap2 xs ys x y w h1 h2 h
    · exact plus_gt neg1 a1 a2 len1 len2 cap1 cap2 xs ys x y w h1 h2 h
set_option maxHeartbeats 1000000 in
theorem negative_any (neg : Bool) (a : Option Addr) (len cap : Nat) (ds : List Int) (n : Int) (w : World) (h : Wh w neg a len cap ds n) :
    Calls Tryz.prog 170 #[.agg #[.bool neg, .slice a len cap]] w (MadeWh w (-n) len) := by
  have hs := h.row.size
  have hsh := h.row.short
  cases neg
  · by_cases h0 : len = 0
    · subst h0
      have e : ds = [] := List.eq_nil_of_length_eq_zero hs
      subst e
      have hW : Wh w false a 0 cap [] (-n) := ⟨h.row, h.norm, by have := h.pos.1; simp [val] at *; omega, fun h => by cases h⟩
      clear h
      go_enter Tryz.func170, Tryz.ntmps170
      go_wp2
      have hb : ∀ o1 o2, Below w.heap.size w ((w.alloc o1).alloc o2) := fun o1 o2 => ((Below.refl _ _).alloc (Nat.le_refl _) _).alloc (by simp) _
      exact bodyPost_ret (v := .agg #[.bool false, .slice a 0 cap]) (by simp [results, Tryz.results170, go_sem]) rfl ⟨false, a, 0, cap, [], rfl, hW.below (hb _ _), hb _ _, Nat.le_refl _⟩
    · have hp : 0 < len := by omega
      have hW : Wh w true a len cap ds (-n) := ⟨h.row, h.norm, by have := h.pos.1; simp; omega, fun _ e => by subst e; simp at hs; omega⟩
      clear h
      go_enter Tryz.func170, Tryz.ntmps170
      go_wp2
      have hb : ∀ o1 o2, Below w.heap.size w ((w.alloc o1).alloc o2) := fun o1 o2 => ((Below.refl _ _).alloc (Nat.le_refl _) _).alloc (by simp) _
      exact bodyPost_ret (v := .agg #[.bool true, .slice a len cap]) (by simp [results, Tryz.results170, go_sem]) rfl ⟨true, a, len, cap, ds, rfl, hW.below (hb _ _), hb _ _, Nat.le_refl _⟩
  · have hW : Wh w false a len cap ds (-n) := ⟨h.row, h.norm, by have := h.neg.1; simp; omega, fun h => by cases h⟩
    clear h
    go_enter Tryz.func170, Tryz.ntmps170
    go_wp2
    have hb : ∀ o1 o2, Below w.heap.size w ((w.alloc o1).alloc o2) := fun o1 o2 => ((Below.refl _ _).alloc (Nat.le_refl _) _).alloc (by simp) _
    exact bodyPost_ret (v := .agg #[.bool false, .slice a len cap]) (by simp [results, Tryz.results170, go_sem]) rfl ⟨false, a, len, cap, ds, rfl, hW.below (hb _ _), hb _ _, Nat.le_refl _⟩
/-- One boxed argument, behind calls that turned nothing old. -/
structure Box1 (w w' : World) (x y : Value) : Prop where
  c0 : w'.cell? ⟨w.heap.size, 0, none⟩ = some x
  c1 : w'.cell? ⟨w.heap.size, 1, none⟩ = some y
  size : w.heap.size < w'.heap.size
  old : Below w.heap.size w w'
theorem box1_first (w : World) (x y : Value) (t : TypeId) : Box1 w (w.alloc (.cells #[x, y] t)) x y := by
  have p := pair_new_k (V := w) (x := x) (y := y) (t := t) rfl
  exact ⟨p.1, p.2.1, by simp, (Below.refl _ _).alloc (Nat.le_refl _) _⟩
theorem Box1.later {w w1 w2 : World} {x y : Value} (h : Box1 w w1 x y) (hb : Below w1.heap.size w1 w2) : Box1 w w2 x y :=
  ⟨(hb.cell (p := ⟨w.heap.size, 0, none⟩) h.size).trans h.c0, (hb.cell (p := ⟨w.heap.size, 1, none⟩) h.size).trans h.c1, Nat.lt_of_lt_of_le h.size hb.size, h.old.trans (hb.mono h.old.size)⟩
theorem Box1.drew {w w1 : World} {x y : Value} (h : Box1 w w1 x y) : Box1 w w1.drew x y := h.later (Below.refl _ _).drew
def ToInt (w : World) (x : Int) (e : Ending) (w' : World) : Prop := e = .returned (.tuple #[.int .i64 (fitV x), .bool (fitB x)]) ∧ Below w.heap.size w w'
theorem val_drop_le {ds : List Int} (h : Dig ds) (k : Nat) : val (ds.drop k) ≤ val ds := by
  induction k generalizing ds with
  | zero => exact Int.le_refl _
  | succ k ih =>
    cases ds with
    | nil => exact Int.le_refl _
    | cons x xs =>
      have h1 := ih h.tail
      have h2 := h.head
      have h3 := val_nonneg h.tail
      simp only [List.drop_succ_cons, val]
      omega
theorem Dig.drop {ds : List Int} (h : Dig ds) (k : Nat) : Dig (ds.drop k) := fun x hx => h x (List.mem_of_mem_drop hx)
set_option maxRecDepth 100000 in
set_option maxHeartbeats 1000000 in
theorem int_fits (neg : Bool) (a : Option Addr) (len cap : Nat) (ds : List Int) (x : Int) (w : World) (h : Wh w neg a len cap ds x) (hf : -9223372036854775808 ≤ x ∧ x ≤ 9223372036854775807) :
    Calls Tryz.prog 171 #[.agg #[.bool neg, .slice a len cap]] w (ToInt w x) := by
  have HX : Hid (∀ W, Below w.heap.size w W → Wh W neg a len cap ds x) := fun W hb => h.below hb
  have HO1 : Hid (∀ W, Calls Tryz.prog 169 #[.int .i64 (-9223372036854775808)] W (MadeWh W (-9223372036854775808) 3)) := fun W => of_any _ W (by decide)
  have HO2 : Hid (∀ W, Calls Tryz.prog 169 #[.int .i64 9223372036854775807] W (MadeWh W 9223372036854775807 3)) := fun W => of_any _ W (by decide)
  obtain ⟨k1, hk1, hk1'⟩ : ∃ k : Int, cmpI x (-9223372036854775808) = k ∧ ¬ k < 0 := by
    refine ⟨_, rfl, ?_⟩
    rcases Int.lt_trichotomy x (-9223372036854775808) with k | k | k
    · omega
    · rw [cmpI_eq k]; decide
    · rw [cmpI_gt k]; decide
  obtain ⟨k2, hk2, hk2'⟩ : ∃ k : Int, cmpI x 9223372036854775807 = k ∧ ¬ 0 < k := by
    refine ⟨_, rfl, ?_⟩
    rcases Int.lt_trichotomy x 9223372036854775807 with k | k | k
    · rw [cmpI_lt k]; decide
    · rw [cmpI_eq k]; decide
    · omega
  have HC1 : Hid (∀ W n' a' l' c' d', Wh W neg a len cap ds x → Wh W n' a' l' c' d' (-9223372036854775808) → Calls Tryz.prog 185 #[.agg #[.bool neg, .slice a len cap], .agg #[.bool n', .slice a' l' c']] W (fun e w' => e = .returned (.int .i64 k1) ∧ Below W.heap.size W w')) :=
    fun W n' a' l' c' d' g1 g2 => (cmp_any neg n' a a' len l' cap c' ds d' x _ W g1 g2).mono (fun e w' ⟨q1, q2⟩ => ⟨by rw [q1, hk1], q2⟩)
  have HC2 : Hid (∀ W n' a' l' c' d', Wh W neg a len cap ds x → Wh W n' a' l' c' d' 9223372036854775807 → Calls Tryz.prog 185 #[.agg #[.bool neg, .slice a len cap], .agg #[.bool n', .slice a' l' c']] W (fun e w' => e = .returned (.int .i64 k2) ∧ Below W.heap.size W w')) :=
    fun W n' a' l' c' d' g1 g2 => (cmp_any neg n' a a' len l' cap c' ds d' x _ W g1 g2).mono (fun e w' ⟨q1, q2⟩ => ⟨by rw [q1, hk2], q2⟩)
  have BX := box1_first w (.bool neg) (.slice a len cap) 228
  have HF : Hid (fitV x = x ∧ fitB x = true) := ⟨fitV_yes hf, fitB_yes hf⟩
  have HWh : Hid (Wh w neg a len cap ds x) := h
  clear hk1 hk2 h
  have hd1 : decide (k1 < 0) = false := by simpa using hk1'
  have hd2 : decide (0 < k2) = false := by simpa using hk2'
  go_enter Tryz.func171, Tryz.ntmps171
  go_upto_region 1 with fail
  generalize hW : (w.alloc _ : World) = W at *
  clear hW
  have b0 := BX.c0
  have b1 := BX.c1
  go_cut [15] (fun s15 wx => s15 = .bool false ∧ Box1 w wx (.bool neg) (.slice a len cap))
  case first =>
    go_region_with (first
      | (go_at_call 169; (with_reducible refine (HO1.out _).mono ?_); rintro e w1 ⟨m1, a1, l1, p1, d1, rfl, hw1, hb1, -⟩; have B1 := BX.drew.later hb1; have c0 := B1.c0; have c1 := B1.c1)
      | (go_at_call 185; (with_reducible refine (HC1.out _ _ _ _ _ _ (HX.out _ B1.old) hw1).mono ?_); rintro e w2 ⟨rfl, hb2⟩; have B2 := B1.later hb2; have c0' := B2.c0; have c1' := B2.c1)
      | (go_at_call 169; (with_reducible refine (HO2.out _).mono ?_); rintro e w3 ⟨m3, a3, l3, p3, d3, rfl, hw3, hb3, -⟩; have B3 := B2.later hb3; have c0'' := B3.c0; have c1'' := B3.c1)
      | (go_at_call 185; (with_reducible refine (HC2.out _ _ _ _ _ _ (HX.out _ B3.old) hw3).mono ?_); rintro e w4 ⟨rfl, hb4⟩; have B4 := B3.later hb4; have c0''' := B4.c0; have c1''' := B4.c1))
    all_goals
      go_wp2_with fail
      go_meet
      exact ⟨rfl, B4⟩
  case rest =>
    obtain ⟨rfl, B5⟩ := hcut
    clear HO1 HO2 HC1 HC2 BX b0 b1 hd1 hd2 hk1' hk2'
    have c0 := B5.c0
    have c1 := B5.c1
    have hs := HWh.out.row.size
    have hsh := HWh.out.row.short
    have hdig := HWh.out.row.dig
    have HD : Hid (Dig ds) := hdig
    have HAt : Hid (At wc a ds) := HWh.out.row.lies.below B5.old
    cases neg
    · have hx := HWh.out.pos
      have HXV : Hid (x = val ds) := hx.1
      have hvx : val ds ≤ 9223372036854775807 := by omega
      clear hx HWh HX hf hdig
      go_wp2
      go_loopg [4, 5] len (fun gk n i wr => wc = wr ∧ gk ≤ len ∧ i = .int .i64 ((gk : Int) - 1) ∧ n = .int .i64 (val (ds.drop gk)))
      case atStart => exact ⟨rfl, Nat.le_refl _, rfl, by rw [drop_end ds len (by omega)]; rfl⟩
      case round =>
        obtain ⟨rfl, hgk, rfl, rfl⟩ := hrel
        by_cases h0 : gk = 0
        · subst h0
          go_wp2
          go_ret2
          exact ⟨ret_two (by rw [HF.out.1, HXV.out]; rfl) HF.out.2.symm, B5.old⟩
        · obtain ⟨m, rfl⟩ : ∃ m, gk = m + 1 := ⟨gk - 1, by omega⟩
          obtain ⟨b, off, rfl, hc⟩ := HAt.out.resolve_left (by rintro rfl; simp at hs; omega)
          have g := hc m (by omega)
          have e0 : val (ds.drop m) = nth ds m + 1073741824 * val (ds.drop (m + 1)) := by rw [drop_nth ds m (by omega)]; rfl
          have v0 := val_nonneg (HD.out.drop (m + 1))
          have v1 := val_drop_le HD.out m
          have d0 := HD.out.nth m
          have HE : Hid (val (ds.drop m) = nth ds m + 1073741824 * val (ds.drop (m + 1))) := e0
          have q1 : 0 ≤ val (ds.drop (m + 1)) * 1073741824 + nth ds m ∧ val (ds.drop (m + 1)) * 1073741824 + nth ds m ≤ 9223372036854775807 := by omega
          have em : ((m + 1 : Nat) : Int) - 1 = (m : Int) := by omega
          rw [em]
          clear e0 v1 hc
          generalize val (ds.drop (m + 1)) = u at *
          generalize nth ds m = d at *
          go_wp2
          go_roundg m
          case measure => omega
          case rel => exact ⟨rfl, by omega, by go_num, by rw [HE.out]; go_num⟩
    · have hx := HWh.out.neg
      have HXV : Hid (x = -val ds) := hx.1
      have hvx : val ds ≤ 9223372036854775808 := by omega
      clear hx HWh HX hf hdig
      go_wp2
      go_loopg [4, 5] len (fun gk n i wr => wc = wr ∧ gk ≤ len ∧ i = .int .i64 ((gk : Int) - 1) ∧ n = .int .i64 (-val (ds.drop gk)))
      case atStart => exact ⟨rfl, Nat.le_refl _, rfl, by rw [drop_end ds len (by omega)]; rfl⟩
      case round =>
        obtain ⟨rfl, hgk, rfl, rfl⟩ := hrel
        by_cases h0 : gk = 0
        · subst h0
          go_wp2
          go_ret2
          exact ⟨ret_two (by rw [HF.out.1, HXV.out]; rfl) HF.out.2.symm, B5.old⟩
        · obtain ⟨m, rfl⟩ : ∃ m, gk = m + 1 := ⟨gk - 1, by omega⟩
          obtain ⟨b, off, rfl, hc⟩ := HAt.out.resolve_left (by rintro rfl; simp at hs; omega)
          have g := hc m (by omega)
          have e0 : val (ds.drop m) = nth ds m + 1073741824 * val (ds.drop (m + 1)) := by rw [drop_nth ds m (by omega)]; rfl
          have v0 := val_nonneg (HD.out.drop (m + 1))
          have v1 := val_drop_le HD.out m
          have d0 := HD.out.nth m
          have HE : Hid (val (ds.drop m) = nth ds m + 1073741824 * val (ds.drop (m + 1))) := e0
          have q1 : -9223372036854775808 ≤ -val (ds.drop (m + 1)) * 1073741824 - nth ds m ∧ -val (ds.drop (m + 1)) * 1073741824 - nth ds m ≤ 0 := by omega
          have em : ((m + 1 : Nat) : Int) - 1 = (m : Int) := by omega
          rw [em]
          clear e0 v1 hc
          generalize val (ds.drop (m + 1)) = u at *
          generalize nth ds m = d at *
          go_wp2
          go_roundg m
          case measure => omega
          case rel => exact ⟨rfl, by omega, by go_num, by rw [HE.out]; go_num⟩
set_option maxRecDepth 100000 in
set_option maxHeartbeats 1000000 in
theorem int_low (neg : Bool) (a : Option Addr) (len cap : Nat) (ds : List Int) (x : Int) (w : World) (h : Wh w neg a len cap ds x) (hf : x < -9223372036854775808) :
    Calls Tryz.prog 171 #[.agg #[.bool neg, .slice a len cap]] w (ToInt w x) := by
  have HX : Hid (∀ W, Below w.heap.size w W → Wh W neg a len cap ds x) := fun W hb => h.below hb
  have HO1 : Hid (∀ W, Calls Tryz.prog 169 #[.int .i64 (-9223372036854775808)] W (MadeWh W (-9223372036854775808) 3)) := fun W => of_any _ W (by decide)
  have HO2 : Hid (∀ W, Calls Tryz.prog 169 #[.int .i64 9223372036854775807] W (MadeWh W 9223372036854775807 3)) := fun W => of_any _ W (by decide)
  have HC1 : Hid (∀ W n' a' l' c' d', Wh W neg a len cap ds x → Wh W n' a' l' c' d' (-9223372036854775808) → Calls Tryz.prog 185 #[.agg #[.bool neg, .slice a len cap], .agg #[.bool n', .slice a' l' c']] W (fun e w' => e = .returned (.int .i64 (-1)) ∧ Below W.heap.size W w')) :=
    fun W n' a' l' c' d' g1 g2 => (cmp_any neg n' a a' len l' cap c' ds d' x _ W g1 g2).mono (fun e w' ⟨q1, q2⟩ => ⟨by rw [q1, cmpI_lt hf], q2⟩)
  have HC2 : Hid (∀ W n' a' l' c' d', Wh W neg a len cap ds x → Wh W n' a' l' c' d' 9223372036854775807 → Calls Tryz.prog 185 #[.agg #[.bool neg, .slice a len cap], .agg #[.bool n', .slice a' l' c']] W (fun e w' => e = .returned (.int .i64 (-1)) ∧ Below W.heap.size W w')) :=
    fun W n' a' l' c' d' g1 g2 => (cmp_any neg n' a a' len l' cap c' ds d' x _ W g1 g2).mono (fun e w' ⟨q1, q2⟩ => ⟨by rw [q1, cmpI_lt (by omega)], q2⟩)
  have BX := box1_first w (.bool neg) (.slice a len cap) 228
  have HF : Hid (fitV x = 0 ∧ fitB x = false) := ⟨fitV_no (by omega), fitB_no (by omega)⟩
  clear h
  go_enter Tryz.func171, Tryz.ntmps171
  go_upto_region 1 with fail
  generalize hW : (w.alloc _ : World) = W at *
  clear hW
  have b0 := BX.c0
  have b1 := BX.c1
  go_cut [15] (fun s15 wx => s15 = .bool true ∧ Box1 w wx (.bool neg) (.slice a len cap))
  case first =>
    go_region_with (first
      | (go_at_call 169; (with_reducible refine (HO1.out _).mono ?_); rintro e w1 ⟨m1, a1, l1, p1, d1, rfl, hw1, hb1, -⟩; have B1 := BX.drew.later hb1; have c0 := B1.c0; have c1 := B1.c1)
      | (go_at_call 185; (with_reducible refine (HC1.out _ _ _ _ _ _ (HX.out _ B1.old) hw1).mono ?_); rintro e w2 ⟨rfl, hb2⟩; have B2 := B1.later hb2; have c0' := B2.c0; have c1' := B2.c1)
      | (go_at_call 169; (with_reducible refine (HO2.out _).mono ?_); rintro e w3 ⟨m3, a3, l3, p3, d3, rfl, hw3, hb3, -⟩; have B3 := B2.later hb3; have c0'' := B3.c0; have c1'' := B3.c1)
      | (go_at_call 185; (with_reducible refine (HC2.out _ _ _ _ _ _ (HX.out _ B3.old) hw3).mono ?_); rintro e w4 ⟨rfl, hb4⟩; have B4 := B3.later hb4; have c0''' := B4.c0; have c1''' := B4.c1))
    all_goals
      go_wp2_with fail
      go_meet
      exact ⟨rfl, B2⟩
  case rest =>
    obtain ⟨rfl, B5⟩ := hcut
    clear HO1 HO2 HC1 HC2 BX b0 b1
    go_wp2
    go_ret2
    exact ⟨ret_two HF.out.1.symm HF.out.2.symm, B5.old⟩
set_option maxRecDepth 100000 in
set_option maxHeartbeats 1000000 in
theorem int_high (neg : Bool) (a : Option Addr) (len cap : Nat) (ds : List Int) (x : Int) (w : World) (h : Wh w neg a len cap ds x) (hf : 9223372036854775807 < x) :
    Calls Tryz.prog 171 #[.agg #[.bool neg, .slice a len cap]] w (ToInt w x) := by
  have HX : Hid (∀ W, Below w.heap.size w W → Wh W neg a len cap ds x) := fun W hb => h.below hb
  have HO1 : Hid (∀ W, Calls Tryz.prog 169 #[.int .i64 (-9223372036854775808)] W (MadeWh W (-9223372036854775808) 3)) := fun W => of_any _ W (by decide)
  have HO2 : Hid (∀ W, Calls Tryz.prog 169 #[.int .i64 9223372036854775807] W (MadeWh W 9223372036854775807 3)) := fun W => of_any _ W (by decide)
  have HC1 : Hid (∀ W n' a' l' c' d', Wh W neg a len cap ds x → Wh W n' a' l' c' d' (-9223372036854775808) → Calls Tryz.prog 185 #[.agg #[.bool neg, .slice a len cap], .agg #[.bool n', .slice a' l' c']] W (fun e w' => e = .returned (.int .i64 1) ∧ Below W.heap.size W w')) :=
    fun W n' a' l' c' d' g1 g2 => (cmp_any neg n' a a' len l' cap c' ds d' x _ W g1 g2).mono (fun e w' ⟨q1, q2⟩ => ⟨by rw [q1, cmpI_gt (by omega)], q2⟩)
  have HC2 : Hid (∀ W n' a' l' c' d', Wh W neg a len cap ds x → Wh W n' a' l' c' d' 9223372036854775807 → Calls Tryz.prog 185 #[.agg #[.bool neg, .slice a len cap], .agg #[.bool n', .slice a' l' c']] W (fun e w' => e = .returned (.int .i64 1) ∧ Below W.heap.size W w')) :=
    fun W n' a' l' c' d' g1 g2 => (cmp_any neg n' a a' len l' cap c' ds d' x _ W g1 g2).mono (fun e w' ⟨q1, q2⟩ => ⟨by rw [q1, cmpI_gt hf], q2⟩)
  have BX := box1_first w (.bool neg) (.slice a len cap) 228
  have HF : Hid (fitV x = 0 ∧ fitB x = false) := ⟨fitV_no (by omega), fitB_no (by omega)⟩
  clear h
  go_enter Tryz.func171, Tryz.ntmps171
  go_upto_region 1 with fail
  generalize hW : (w.alloc _ : World) = W at *
  clear hW
  have b0 := BX.c0
  have b1 := BX.c1
  go_cut [15] (fun s15 wx => s15 = .bool true ∧ Box1 w wx (.bool neg) (.slice a len cap))
  case first =>
    go_region_with (first
      | (go_at_call 169; (with_reducible refine (HO1.out _).mono ?_); rintro e w1 ⟨m1, a1, l1, p1, d1, rfl, hw1, hb1, -⟩; have B1 := BX.drew.later hb1; have c0 := B1.c0; have c1 := B1.c1)
      | (go_at_call 185; (with_reducible refine (HC1.out _ _ _ _ _ _ (HX.out _ B1.old) hw1).mono ?_); rintro e w2 ⟨rfl, hb2⟩; have B2 := B1.later hb2; have c0' := B2.c0; have c1' := B2.c1)
      | (go_at_call 169; (with_reducible refine (HO2.out _).mono ?_); rintro e w3 ⟨m3, a3, l3, p3, d3, rfl, hw3, hb3, -⟩; have B3 := B2.later hb3; have c0'' := B3.c0; have c1'' := B3.c1)
      | (go_at_call 185; (with_reducible refine (HC2.out _ _ _ _ _ _ (HX.out _ B3.old) hw3).mono ?_); rintro e w4 ⟨rfl, hb4⟩; have B4 := B3.later hb4; have c0''' := B4.c0; have c1''' := B4.c1))
    all_goals
      go_wp2_with fail
      go_meet
      exact ⟨rfl, B4⟩
  case rest =>
    obtain ⟨rfl, B5⟩ := hcut
    clear HO1 HO2 HC1 HC2 BX b0 b1
    go_wp2
    go_ret2
    exact ⟨ret_two HF.out.1.symm HF.out.2.symm, B5.old⟩
/-- A number of any length as an int, if it fits. -/
theorem toInt_any (neg : Bool) (a : Option Addr) (len cap : Nat) (ds : List Int) (x : Int) (w : World) (h : Wh w neg a len cap ds x) :
    Calls Tryz.prog 171 #[.agg #[.bool neg, .slice a len cap]] w (ToInt w x) := by
  by_cases h1 : x < -9223372036854775808
  · exact int_low neg a len cap ds x w h h1
  · by_cases h2 : 9223372036854775807 < x
    · exact int_high neg a len cap ds x w h h2
    · exact int_fits neg a len cap ds x w h (by omega)
end Go.Proofs.YtolpelfdhcccnaaGreatDoor
