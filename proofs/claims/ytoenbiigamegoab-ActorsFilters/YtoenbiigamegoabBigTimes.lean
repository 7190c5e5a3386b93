/- The document's whole numbers of any length: Times (pianolaref00). -/
import Derived.Test.YtoenbiigamegoabBigWh
import Derived.Test.YtoenbiigamegoabBigMul
namespace Go.Proofs.Ytoenbiigamegoab
open Go.ChangeShapes Go.WideShapes Go.ChangeAt Go.RowKit

theorem Boxes.later3 {w w1 w2 : World} {x1 y1 x2 y2 x3 y3 : Value} (h : Boxes w w1 x1 y1 x2 y2 x3 y3) (hb : Below (w.heap.size + 1 + 1 + 1) w1 w2) : Boxes w w2 x1 y1 x2 y2 x3 y3 := by
  have hs := h.size
  have k : ∀ b o, b ≤ w.heap.size + 1 + 1 → w2.cell? ⟨b, o, none⟩ = w1.cell? ⟨b, o, none⟩ := fun b o hbo => hb.cell (p := ⟨b, o, none⟩) (Nat.lt_succ_of_le hbo)
  have f : ∀ b o, b ≤ w.heap.size + 1 + 1 → w2.frozen? ⟨b, o, none⟩ = w1.frozen? ⟨b, o, none⟩ := fun b o hbo => hb.frozen (p := ⟨b, o, none⟩) (Nat.lt_succ_of_le hbo)
  exact ⟨by rw [k _ _ (by omega)]; exact h.c10, by rw [k _ _ (by omega)]; exact h.c11, by rw [k _ _ (by omega)]; exact h.c20, by rw [k _ _ (by omega)]; exact h.c21, by rw [k _ _ (by omega)]; exact h.c30, by rw [k _ _ (by omega)]; exact h.c31,
    by rw [f _ _ (by omega)]; exact h.f30, by rw [f _ _ (by omega)]; exact h.f31, Nat.lt_of_lt_of_le hs hb.size, h.old.trans (hb.mono (by omega))⟩

/-- Memory while a product is gathered: the boxes, and the row of digits that is the call's own. -/
structure TSt (w wr : World) (g n : Nat) (x1 y1 x2 y2 : Value) (os : List Int) : Prop where
  box : Boxes w wr x1 y1 x2 y2 (.bool false) (.slice none 0 0)
  own : wr.ownsRow (w.heap.size + 1 + 1 + 1) 3 1 (.slice (some ⟨g, 0, none⟩) n n) n (os.map (Value.int .i64))
  far : w.heap.size + 1 + 1 + 1 ≤ g
  len : os.length = n
theorem TSt.cell {w wr : World} {g n : Nat} {x1 y1 x2 y2 : Value} {os : List Int} (h : TSt w wr g n x1 y1 x2 y2 os) (j : Nat) (hj : j < n) : wr.cell? ⟨g, j, none⟩ = some (.int .i64 (nth os j)) := by
  rw [h.own.cellAt j (by omega), get_map (by have := h.len; omega)]
theorem TSt.free {w wr : World} {g n : Nat} {x1 y1 x2 y2 : Value} {os : List Int} (h : TSt w wr g n x1 y1 x2 y2 os) (j : Nat) : wr.frozen? ⟨g, j, none⟩ = false := h.own.frozenAt j
theorem TSt.store {w wr : World} {g n : Nat} {x1 y1 x2 y2 : Value} {os : List Int} (h : TSt w wr g n x1 y1 x2 y2 os) (j : Nat) (s : Int) : TSt w (wr.setCell ⟨g, j, none⟩ (.int .i64 s)) g n x1 y1 x2 y2 (os.set j s) := by
  refine ⟨h.box.later3 ((Below.refl _ _).setCell (by exact h.far) _), ?_, h.far, by rw [List.length_set]; exact h.len⟩
  rw [List.map_set]
  exact (h.own.stored j _).1
theorem TSt.drewN {w wr : World} {g n : Nat} {x1 y1 x2 y2 : Value} {os : List Int} (h : TSt w wr g n x1 y1 x2 y2 os) (k : Nat) : TSt w (wr.drewN k) g n x1 y1 x2 y2 os :=
  ⟨h.box.later3 (bdrew (Below.refl _ _) k), h.own, h.far, h.len⟩
theorem TSt.drew {w wr : World} {g n : Nat} {x1 y1 x2 y2 : Value} {os : List Int} (h : TSt w wr g n x1 y1 x2 y2 os) : TSt w wr.drew g n x1 y1 x2 y2 os := h.drewN 1

theorem tst_first {w W w0 : World} {n g : Nat} {x1 y1 x2 y2 : Value} (hB : Boxes w W x1 y1 x2 y2 (.bool false) (.slice none 0 0)) (hg : W.heap.size = g)
    (hown : w0.ownsRow (w.heap.size + 1 + 1 + 1) 3 1 (.slice (some ⟨W.heap.size, 0, none⟩) n n) n (madeCells (Value.int .i64 0).cells (n * 1)).toList) (hgrow : W.grownBy w0 none) : TSt w w0 g n x1 y1 x2 y2 (List.replicate n 0) := by
  subst hg
  refine ⟨hB.later3 ((Below.refl _ _).grown hgrow (by have := hB.size; omega) (fun k h => by cases h)), ?_, by have := hB.size; omega, by simp⟩
  rw [List.map_replicate]
  have e : (Value.int .i64 0).cells = #[.int .i64 0] := rfl
  rw [e, Nat.mul_one, toList_madeCells_one] at hown
  exact hown

theorem times_zero (neg1 neg2 : Bool) (a1 a2 : Option Addr) (len1 len2 cap1 cap2 : Nat) (xs ys : List Int) (x y : Int) (w : World) (h1 : Wh w neg1 a1 len1 cap1 xs x) (h2 : Wh w neg2 a2 len2 cap2 ys y) (h0 : len1 = 0 ∨ len2 = 0) :
    Calls Try.prog 16 #[.agg #[.bool neg1, .slice a1 len1 cap1], .agg #[.bool neg2, .slice a2 len2 cap2]] w (MadeWh w (x * y) (len1 + len2)) := by
  have HB := boxes_first w (.bool neg1) (.slice a1 len1 cap1) (.bool neg2) (.slice a2 len2 cap2) (.bool false) (.slice none 0 0) 38 38 38
  have HZ : Hid (x * y = 0) := by
    show x * y = 0
    rcases h0 with rfl | rfl
    · have e : xs = [] := List.eq_nil_of_length_eq_zero h1.row.size
      have := h1.worth
      subst e
      have : x = 0 := by rw [this]; cases neg1 <;> rfl
      rw [this, Int.zero_mul]
    · have e : ys = [] := List.eq_nil_of_length_eq_zero h2.row.size
      have := h2.worth
      subst e
      have : y = 0 := by rw [this]; cases neg2 <;> rfl
      rw [this, Int.mul_zero]
  have hW : ∀ W, Wh W false none 0 0 [] (x * y) := fun W => ⟨⟨rfl, Or.inl rfl, fun _ => ⟨rfl, rfl⟩, Nat.le_refl _, by decide, dig_nil⟩, (fun h => absurd rfl h), by rw [HZ.out]; rfl, (fun h => by cases h)⟩
  have HBo := HB.old
  by_cases hl : len1 = 0
  · subst hl
    clear h1 h2 h0
    go_enter Try.func16, Try.ntmps16
    go_wp2
    exact bodyPost_ret (v := .agg #[.bool false, .slice none 0 0]) (by simp [results, Try.results16, go_sem]) rfl ⟨false, none, 0, 0, [], rfl, hW _, HBo, by omega⟩
  · have hl2 : len2 = 0 := by omega
    subst hl2
    have s1 := h1.row.short
    have q1 : ((len1 : Int) == 0) = false := by simp; omega
    clear h1 h2 h0
    go_enter Try.func16, Try.ntmps16
    go_wp2
    exact bodyPost_ret (v := .agg #[.bool false, .slice none 0 0]) (by simp [results, Try.results16, go_sem]) rfl ⟨false, none, 0, 0, [], rfl, hW _, HBo, by omega⟩

/-- Where the rounds stand: the digits that are done, and those that later rounds still turn. -/
structure Outer (xs ys lo hi : List Int) (i n : Nat) : Prop where
  llen : lo.length = i
  hlen : i + hi.length = n
  dig : Dig (lo ++ hi)
  noughts : ∀ k, ys.length ≤ k → nth hi k = 0
  goal : lo ++ timesL (xs.drop i) hi ys = timesL xs (List.replicate n 0) ys
structure Inner (x : Int) (ys hi dn rest : List Int) (k : Nat) (c : Int) : Prop where
  dlen : dn.length = k
  len : k + rest.length = hi.length
  low : 0 ≤ c
  high : c < 1073741824
  dig : Dig (dn ++ rest)
  nought : nth rest (ys.length - k) = 0
  goal : dn ++ rowL c x rest (ys.drop k) = rowL 0 x hi ys

theorem Inner.step {x c : Int} {ys hi dn rest : List Int} {k : Nat} (h : Inner x ys hi dn rest k c) (hx : 0 ≤ x ∧ x < 1073741824) (hy : Dig ys) (hk : k < ys.length) (hl : ys.length < hi.length) :
    ∃ o rest', rest = o :: rest' ∧ (0 ≤ o ∧ o < 1073741824) ∧ Inner x ys hi (dn ++ [(o + x * nth ys k + c) % 1073741824]) rest' (k + 1) ((o + x * nth ys k + c) / 1073741824) := by
  obtain ⟨h1, h2, h3, h4, h5, h6, h7⟩ := h
  cases rest with
  | nil => simp at h2; omega
  | cons o rest' =>
    have ho := h5.right.head
    have hp := prod_le hx (hy.nth k)
    rw [drop_nth ys k hk, rowL] at h7
    refine ⟨o, rest', rfl, ho, by simp [h1], by simp at h2; omega, by omega, by omega, ?_, ?_, ?_⟩
    · rw [List.append_assoc]
      exact h5.left.append (Dig.cons (by omega) h5.right.tail)
    · rw [show ys.length - k = (ys.length - (k + 1)) + 1 by omega, nth_succ] at h6
      exact h6
    · rw [List.append_assoc]
      exact h7
theorem Inner.last {x c : Int} {ys hi dn rest : List Int} {k : Nat} (h : Inner x ys hi dn rest k c) (hk : k = ys.length) (hl : ys.length < hi.length) :
    ∃ rest', rest = 0 :: rest' ∧ dn ++ (0 + c) :: rest' = rowL 0 x hi ys := by
  obtain ⟨h1, h2, h3, h4, h5, h6, h7⟩ := h
  subst hk
  cases rest with
  | nil => simp at h2; omega
  | cons o rest' =>
    rw [Nat.sub_self, nth_zero] at h6
    subst h6
    rw [List.drop_length, rowL] at h7
    exact ⟨rest', rfl, h7⟩
theorem Outer.step {xs ys lo hi : List Int} {i n : Nat} (h : Outer xs ys lo hi i n) (hy : Dig ys) (hx : Dig xs) (hi' : i < xs.length) (hn : xs.length + ys.length = n) :
    ∃ h0 ht, rowL 0 (nth xs i) hi ys = h0 :: ht ∧ Outer xs ys (lo ++ [h0]) ht (i + 1) n := by
  obtain ⟨h1, h2, h3, h4, h5⟩ := h
  have hl : ys.length < hi.length := by omega
  have e1 := rowL_len (c := 0) (x := nth xs i) hl
  have e2 := rowL_dig (c := 0) (x := nth xs i) hl h3.right hy (hx.nth i) (by decide) (h4 _ (Nat.le_refl _))
  rw [drop_nth xs i hi', timesL] at h5
  cases e : rowL 0 (nth xs i) hi ys with
  | nil => rw [e] at e1; simp at e1; omega
  | cons h0 ht =>
    rw [e] at e1 e2 h5
    refine ⟨h0, ht, rfl, by simp [h1], by simp at e1; omega, ?_, fun k hk => ?_, ?_⟩
    · rw [List.append_assoc]; exact h3.left.append e2
    · have := rowL_far (c := 0) (x := nth xs i) (os := hi) (ys := ys) (k + 1) hl (by omega)
      rw [e, nth_succ, h4 (k + 1) (by omega)] at this
      exact this
    · rw [List.append_assoc]
      exact h5
end Go.Proofs.Ytoenbiigamegoab
