/- Texts of one chain, laid one behind the other. -/
import Derived.Test.YtimioiaoefhabaaGreatPartPackPlaces15
import Derived.Test.YtimioiaoefhabaaGreatPartPackPlaces9
import Derived.Test.YtimioiaoefhabaaGreatPartPackPlaces13
import Derived.Laws.AppendOwnNone
namespace Go.Proofs.YtimioiaoefhabaaGreat
open Go.ChangeShapes Go.WideShapes Go.ChangeAt Go.RowKit
theorem wpList_appI {w : World} {ops : Array Oper} {rest : List Oper} {o : Oper} {a : Act} {Q : Exit → Act → World → Prop} (hgd : o.guard = none) (s x : Operand) (ho : o.op = .call { callee := .builtin .append, args := #[s, x], argTypes := #[25, 25] })
    (B : Nat) (d0 : Option Addr) (c0 : Nat) (zs : List Int) (hs : a.eval s = .slice d0 zs.length c0) (hown : CapR B w d0 c0 zs) (ad : Option Addr) (c : Nat) (ys : List Int) (hx : a.eval x = .slice ad ys.length c) (hna : ad = none → ys.length = 0 ∧ c = 0) (hat : At w ad ys) (hb : (zs.length + ys.length) * 8 ≤ 140737488355328) (hB : B ≤ w.heap.size) (m : Nat) (R : List Int) (hm : zs.length + ys.length = m) (hR : zs ++ ys = R)
    (h : ∀ d c' w', CapR B w' d c' R → Below B w w' → wpList Tryz.prog ops Q rest (a.put o.dst (.slice d m c')) w') : wpList Tryz.prog ops Q (o :: rest) a w := by
  subst hm
  subst hR
  obtain ⟨i0, hi, hz0, hz1, hz2⟩ := info_parts Tryz.info3
  cases ad with
  | none =>
    obtain ⟨h1, rfl⟩ := hna rfl
    have e : ys = [] := List.eq_nil_of_length_eq_zero h1
    subst e
    refine wpList_append_own_none hgd s x 25 ho B 3 i0 1 Tryz.underlying25 hi _ zs.length (zs.map (Value.int .i64)) hs hown hx ?_
    have := h d0 c0 w (by rw [List.append_nil]; exact hown) (Below.refl _ _)
    simpa using this
  | some ad =>
    refine wpList_append_own _ hgd s x 25 ho B 3 i0 (.int .i64 0) 1 8 Tryz.underlying25 hi hz0 hz1 hz2 rfl (by decide) _ zs.length (zs.map (Value.int .i64)) hs hown ad ys.length c (ys.map (Value.int .i64)) hx (by simp) (lies_new hat) (ints_oneCell _ _) (by unfold maxLen; omega) (by omega) hB ?_
    intro v' w1 hown1 hgrow _
    have hown' : w1.ownsRow B 3 1 v' (zs.length + ys.length) ((zs ++ ys).map (Value.int .i64)) := by simpa using hown1
    obtain ⟨a', cap', hv, -, -, -, -, -⟩ := owns_at (n := zs.length + ys.length) (zs := zs ++ ys) hown'
    rw [hv]
    refine h a' cap' w1 ?_ ((Below.refl _ _).grown hgrow hB (fun k hk => (hown.lt ⟨k, 0, none⟩ (by
      cases d0 with
      | none => cases hk
      | some y =>
        rcases hown.2 with ⟨e1, -⟩ | ⟨g, cap, cur, e1, -⟩
        · cases e1
        · cases e1; cases hk; rfl)).1))
    unfold CapR
    rw [List.length_append, ← hv]
    exact hown'
def nthLV (I : List (List Int)) (k : Nat) : List Int := I.getD k []
/-- Rows that a call gives. -/
structure OutTV (B : Nat) (w : World) (A : Nat → Option Addr) (C : Nat → Nat) (x : Option Addr) (O : List (List Int)) : Prop where
  rows : ∀ j, j < O.length → CapR B w (A j) (C j) (nthLV O j)
  apart : ∀ j k y z, j < O.length → k < O.length → j ≠ k → A j = some y → A k = some z → y.block ≠ z.block
  tab : O = [] ∨ ∃ g, x = some ⟨g, 0, none⟩ ∧ B ≤ g ∧ g < w.heap.size ∧ (∀ j, j < O.length → w.cell? ⟨g, j, none⟩ = some (.slice (A j) (nthLV O j).length (C j))) ∧ ∀ j y, j < O.length → A j = some y → y.block ≠ g
theorem OutTV.keep {B : Nat} {w w' : World} {A : Nat → Option Addr} {C : Nat → Nat} {x : Option Addr} {O : List (List Int)} (h : OutTV B w A C x O) (hk : ∀ k, B ≤ k → k < w.heap.size → w'.heap[k]? = w.heap[k]?) (hs : w.heap.size ≤ w'.heap.size) : OutTV B w' A C x O := by
  refine ⟨fun j hj => (h.rows j hj).keep fun y hy => hk _ ((h.rows j hj).lt y hy).1 ((h.rows j hj).lt y hy).2, h.apart, ?_⟩
  rcases h.tab with h0 | ⟨g, hx, h1, h2, h3, h4⟩
  · exact .inl h0
  · exact .inr ⟨g, hx, h1, by omega, fun j hj => by rw [World.cell?_of_block (w := w) (w' := w') (a := ⟨g, j, none⟩) (hk g h1 h2)]; exact h3 j hj, h4⟩
theorem OutTV.mono {B B' : Nat} {w : World} {A : Nat → Option Addr} {C : Nat → Nat} {x : Option Addr} {O : List (List Int)} (h : OutTV B w A C x O) (hB : B' ≤ B) : OutTV B' w A C x O := by
  refine ⟨fun j hj => (h.rows j hj).mono hB, h.apart, ?_⟩
  rcases h.tab with h0 | ⟨g, hx, h1, r⟩
  · exact .inl h0
  · exact .inr ⟨g, hx, by omega, r⟩
/-- The cells of a table of rows. -/
def tabCV (A : Nat → Option Addr) (C : Nat → Nat) (O : List (List Int)) : List Value := (List.range O.length).map fun j => .slice (A j) (nthLV O j).length (C j)
/-- A table of rows that grows. -/
structure TabGV (B : Nat) (wr : World) (v : Value) (A : Nat → Option Addr) (C : Nat → Nat) (O : List (List Int)) : Prop where
  row : wr.ownsRow B 25 1 v O.length (tabCV A C O)
  rows : ∀ j, j < O.length → CapR B wr (A j) (C j) (nthLV O j)
  dd : ∀ j k x y, j < O.length → k < O.length → j ≠ k → A j = some x → A k = some y → x.block ≠ y.block
  dt : ∀ j x k, j < O.length → A j = some x → v.ownBlock = some k → x.block ≠ k
theorem tabG_nilV (B : Nat) (w : World) : TabGV B w (.slice none 0 0) (fun _ => none) (fun _ => 0) [] := ⟨World.ownsRow_nil _ _ _ _, fun j hj => by simp at hj, fun j k x y hj => by simp at hj, fun j x k hj => by simp at hj⟩
theorem rowG_laterV {B e size n : Nat} {v : Value} {xs : List Value} {w w' : World} (h : w.ownsRow B e size v n xs) (hk : ∀ k, v.ownBlock = some k → w'.heap[k]? = w.heap[k]?) : w'.ownsRow B e size v n xs := by
  refine ⟨h.1, ?_⟩
  rcases h.2 with h2 | ⟨g, cap, cur, hv, hg, hh, r⟩
  · exact .inl h2
  · exact .inr ⟨g, cap, cur, hv, hg, by rw [hk g (by rw [hv]; rfl)]; exact hh, r⟩
theorem rowG_ltV {B e size n : Nat} {v : Value} {xs : List Value} {w : World} (h : w.ownsRow B e size v n xs) {k : Nat} (hk : v.ownBlock = some k) : B ≤ k ∧ k < w.heap.size := by
  rcases h.2 with ⟨h2, -⟩ | ⟨g, cap, cur, hv, hg, hh, -⟩
  · rw [h2] at hk; cases hk
  · rw [hv] at hk; cases hk
    exact ⟨hg, (Array.getElem?_eq_some_iff.1 hh).1⟩
theorem TabGV.below {B : Nat} {w w' : World} {v : Value} {A : Nat → Option Addr} {C : Nat → Nat} {O : List (List Int)} (h : TabGV B w v A C O) (hb : Below w.heap.size w w') : TabGV B w' v A C O :=
  ⟨rowG_laterV h.row fun k hk => hb.block k (rowG_ltV h.row hk).2, fun j hj => (h.rows j hj).later hb, h.dd, h.dt⟩
theorem nthL_leftV {O : List (List Int)} {L : List Int} {j : Nat} (h : j < O.length) : nthLV (O ++ [L]) j = nthLV O j := by
  unfold nthLV; rw [List.getD_eq_getElem?_getD, List.getD_eq_getElem?_getD, List.getElem?_append_left h]
theorem nthL_endV (O : List (List Int)) (L : List Int) : nthLV (O ++ [L]) O.length = L := by
  unfold nthLV; rw [List.getD_eq_getElem?_getD, List.getElem?_append_right (Nat.le_refl _), Nat.sub_self]; rfl
theorem tabC_appV (A : Nat → Option Addr) (C : Nat → Nat) (O : List (List Int)) (L : List Int) (d : Option Addr) (c : Nat) : tabCV (upd A O.length d) (upd C O.length c) (O ++ [L]) = tabCV A C O ++ [.slice d L.length c] := by
  unfold tabCV
  rw [List.length_append, List.length_singleton, List.range_succ, List.map_append]
  congr 1
  · refine List.map_congr_left fun j hj => ?_
    have hj' := List.mem_range.1 hj
    rw [nthL_leftV hj', upd_ne (by omega), upd_ne (by omega)]
  · rw [List.map_singleton, nthL_endV, upd_eq, upd_eq]
theorem TabGV.app {B : Nat} {w w2 w4 : World} {v v' : Value} {A : Nat → Option Addr} {C : Nat → Nat} {O : List (List Int)} {d : Option Addr} {c : Nat} {L : List Int} (h : TabGV B w v A C O) (hB : B ≤ w.heap.size) (hb : Below w.heap.size w w2) (hd : CapR w.heap.size w2 d c L)
    (ho : w4.ownsRow B 25 1 v' (O.length + 1) (tabCV A C O ++ [.slice d L.length c]))
    (ht : (∃ g cap, v = .slice (some ⟨g, 0, none⟩) O.length cap ∧ v' = .slice (some ⟨g, 0, none⟩) (O.length + 1) cap ∧ w2.grownBy w4 (some g)) ∨ (∃ cap, v' = .slice (some ⟨w2.heap.size, 0, none⟩) (O.length + 1) cap ∧ w2.grownBy w4 none)) : TabGV B w4 v' (upd A O.length d) (upd C O.length c) (O ++ [L]) := by
  have h2 := h.below hb
  have hsz := hb.size
  have key : ∀ k, k < w2.heap.size → v.ownBlock ≠ some k → w4.heap[k]? = w2.heap[k]? := fun k hk hn => by
    rcases ht with ⟨g, cap, e, -, hg⟩ | ⟨cap, -, hg⟩
    · exact hg.block k hk (fun e2 => hn (by rw [e]; exact e2.symm))
    · exact hg.block k hk (fun e2 => by cases e2)
  have dnew : ∀ x, d = some x → v.ownBlock ≠ some x.block := fun x hx e => by
    have h3 := (hd.lt x hx).1
    have h4 := (rowG_ltV h.row e).2
    omega
  have hl : (O ++ [L]).length = O.length + 1 := by simp
  refine ⟨?_, fun j hj => ?_, fun j k x y hj hk hn hx hy => ?_, fun j x k hj hx hv => ?_⟩
  · rw [hl, tabC_appV]; exact ho
  · rw [hl] at hj
    by_cases e : j = O.length
    · subst e
      rw [upd_eq, upd_eq, nthL_endV]
      exact (hd.mono hB).keep fun x hx => key _ (hd.lt x hx).2 (dnew x hx)
    · rw [upd_ne e, upd_ne e, nthL_leftV (by omega)]
      exact (h2.rows j (by omega)).keep fun x hx => key _ ((h2.rows j (by omega)).lt x hx).2 (fun e2 => h.dt j x _ (by omega) hx e2 rfl)
  · rw [hl] at hj hk
    have old : ∀ j x, j < O.length → A j = some x → x.block < w.heap.size := fun j x hj hx => ((h.rows j hj).lt x hx).2
    by_cases e1 : j = O.length
    · subst e1
      rw [upd_eq] at hx
      rw [upd_ne (by omega)] at hy
      have := (hd.lt x hx).1
      have := old k y (by omega) hy
      omega
    · rw [upd_ne e1] at hx
      by_cases e2 : k = O.length
      · subst e2
        rw [upd_eq] at hy
        have := (hd.lt y hy).1
        have := old j x (by omega) hx
        omega
      · rw [upd_ne e2] at hy
        exact h.dd j k x y (by omega) (by omega) hn hx hy
  · rw [hl] at hj
    have hxl : x.block < w2.heap.size ∧ v.ownBlock ≠ some x.block := by
      by_cases e : j = O.length
      · subst e
        rw [upd_eq] at hx
        exact ⟨(hd.lt x hx).2, dnew x hx⟩
      · rw [upd_ne e] at hx
        exact ⟨((h2.rows j (by omega)).lt x hx).2, fun e2 => h.dt j x _ (by omega) hx e2 rfl⟩
    rcases ht with ⟨g, cap, e, e', hg⟩ | ⟨cap, e', hg⟩
    · rw [e'] at hv; cases hv
      exact fun e3 => hxl.2 (by rw [e, e3]; rfl)
    · rw [e'] at hv; cases hv
      have h9 := hxl.1
      show x.block ≠ w2.heap.size
      omega
theorem TabGV.out {B : Nat} {w : World} {x : Option Addr} {c : Nat} {A : Nat → Option Addr} {C : Nat → Nat} {O : List (List Int)} (h : TabGV B w (.slice x O.length c) A C O) : OutTV B w A C x O := by
  refine ⟨h.rows, h.dd, ?_⟩
  rcases h.row.2 with ⟨-, h2⟩ | ⟨g, cap, cur, hv, hg, hh, -⟩
  · exact .inl (List.eq_nil_of_length_eq_zero h2)
  · cases hv
    refine .inr ⟨g, rfl, hg, (Array.getElem?_eq_some_iff.1 hh).1, fun j hj => ?_, fun j y hj hy => h.dt j y g hj hy rfl⟩
    rw [World.ownsRow.cellAt h.row j (by simpa using hj)]
    unfold tabCV
    rw [List.getElem?_map, List.getElem?_range hj]
    rfl
theorem tabG_shapeV {B : Nat} {w : World} {v : Value} {A : Nat → Option Addr} {C : Nat → Nat} {O : List (List Int)} (h : TabGV B w v A C O) : ∃ x c, v = .slice x O.length c := by
  rcases h.row.2 with ⟨h1, h2⟩ | ⟨g, cap, cur, hv, -⟩
  · exact ⟨none, 0, by rw [h1, h2]⟩
  · exact ⟨_, cap, hv⟩
theorem TabGV.keep {B : Nat} {w w' : World} {v : Value} {A : Nat → Option Addr} {C : Nat → Nat} {O : List (List Int)} (h : TabGV B w v A C O) (hk : ∀ k, B ≤ k → k < w.heap.size → w'.heap[k]? = w.heap[k]?) : TabGV B w' v A C O :=
  ⟨rowG_laterV h.row fun k e => hk k (rowG_ltV h.row e).1 (rowG_ltV h.row e).2, fun j hj => (h.rows j hj).keep fun x hx => hk _ ((h.rows j hj).lt x hx).1 ((h.rows j hj).lt x hx).2, h.dd, h.dt⟩
/-- A table of rows whose blocks are told. -/
def TabXV (B : Nat) (X : Nat → Prop) (u : World) (O : List (List Int)) (z : Value) : Prop := ∃ A C, TabGV B u z A C O ∧ ∀ j x, j < O.length → A j = some x → X x.block
theorem TabXV.later {B : Nat} {X : Nat → Prop} {u u' : World} {O : List (List Int)} {z : Value} (h : TabXV B X u O z) (hb : Below u.heap.size u u') : TabXV B X u' O z := by
  obtain ⟨A, C, h1, h2⟩ := h
  exact ⟨A, C, h1.below hb, h2⟩
theorem tabG_oneV {B : Nat} {w : World} {a : Option Addr} {c1 : Nat} {P : List Int} (ha : CapR B w a c1 P) (hB : B ≤ w.heap.size) :
    TabGV B (w.alloc (.cells #[.slice a P.length c1] 25)) (.slice (some ⟨w.heap.size, 0, none⟩) 1 1) (fun _ => a) (fun _ => c1) [P] := by
  have bel := (Below.refl w.heap.size w).alloc (Nat.le_refl _) (.cells #[.slice a P.length c1] 25)
  refine ⟨?_, fun j hj => ?_, fun j k x y hj hk hn hx hy => ?_, fun j x k hj hx hv => ?_⟩
  · exact ⟨rfl, .inr ⟨w.heap.size, 1, #[.slice a P.length c1], rfl, hB, by show (w.heap.push _)[w.heap.size]? = _; simp, Nat.le_refl _, by unfold maxLen; omega, rfl, rfl⟩⟩
  · match j, hj with
    | 0, _ => exact ha.later bel
  · simp at hj hk; omega
  · cases hv
    have := (ha.lt x hx).2
    show x.block ≠ w.heap.size
    omega
/-- A row laid behind the rows of a table. -/
theorem wpList_appRow {w : World} {ops : Array Oper} {rest : List Oper} {o : Oper} {a : Act} {Q : Exit → Act → World → Prop} (hgd : o.guard = none) (s x : Operand) (ho : o.op = .call { callee := .builtin .append, args := #[s, x], argTypes := #[54, 54] })
    (B : Nat) (v0 : Value) (w0 : World) (A : Nat → Option Addr) (C : Nat → Nat) (O : List (List Int)) (hs : a.eval s = v0) (hT : TabGV B w0 v0 A C O) (hB0 : B ≤ w0.heap.size) (d : Option Addr) (c : Nat) (L : List Int) (hb : Below w0.heap.size w0 w) (hd : CapR w0.heap.size w d c L) (k : Nat) (hx : a.eval x = .slice (some ⟨k, 0, none⟩) 1 1) (hk : BlkA 25 k w #[.slice d L.length c]) (hlen : O.length ≤ 1000000)
    (h : ∀ v' w' A' C', TabGV B w' v' A' C' (O ++ [L]) → Below B w w' → wpList Tryz.prog ops Q rest (a.put o.dst v') w') : wpList Tryz.prog ops Q (o :: rest) a w := by
  obtain ⟨i1, hi1, hy0, hy1, hy2⟩ := info_parts Tryz.info25
  have hB : B ≤ w.heap.size := Nat.le_trans hB0 hb.size
  refine wpList_append_told (P := Tryz.prog) w hgd s x 54 ho B 25 i1 (.slice none 0 0) 1 24 Tryz.underlying54 hi1 hy0 hy1 hy2 rfl (by decide) v0 O.length (tabCV A C O) hs (hT.below hb).row ⟨k, 0, none⟩ 1 1 (by decide) [.slice d L.length c] hx rfl (fun j u hu => by
    have hj : j < 1 := by have := (List.getElem?_eq_some_iff.1 hu).1; simpa using this
    have e0 : j = 0 := by omega
    subst e0
    have e : (⟨k, 0, none⟩ : Addr).add 0 = ⟨k, 0, none⟩ := rfl
    rw [e]
    refine hk.cell ?_
    rw [← hu]
    simp) (fun u hu => by simp at hu; subst hu; rfl) (by unfold maxLen; omega) (by omega) hB ?_
  intro v' w' h2 h3
  refine h v' w' _ _ (hT.app hB0 hb hd h2 h3) ?_
  have hlt := fun q e => (rowG_ltV hT.row (k := q) e).1
  rcases h3 with ⟨g1, cap, e1, -, hg⟩ | ⟨cap, -, hg⟩
  · exact (Below.refl _ _).grown hg hB (fun q hq => by cases hq; exact hlt _ (by rw [e1]; rfl))
  · exact (Below.refl _ _).grown hg hB (fun q hq => by cases hq)
end Go.Proofs.YtimioiaoefhabaaGreat
namespace Go.Proofs.YtimioiaoefhabaaGreat
/-- The calls' code. -/
def codeV (n : NN) (zs : List Int) : Int := if checkN n = 0 then (if 2048 < zs.length then 2 else ((errV n (startT n) zs : Nat) : Int)) else checkN n
theorem code_bad {n : NN} {zs : List Int} (h : ¬ checkN n = 0) : codeV n zs = checkN n := if_neg h
theorem code_long {n : NN} {zs : List Int} (h : checkN n = 0) (hl : 2048 < zs.length) : codeV n zs = 2 := by unfold codeV; rw [if_pos h, if_pos hl]
theorem code_err {n : NN} {zs : List Int} (h : checkN n = 0) (hl : ¬ 2048 < zs.length) : codeV n zs = ((errV n (startT n) zs : Nat) : Int) := by unfold codeV; rw [if_pos h, if_neg hl]
theorem code_zero {n : NN} {zs : List Int} (h : codeV n zs = 0) : checkN n = 0 ∧ zs.length ≤ 2048 ∧ errV n (startT n) zs = 0 := by
  by_cases hc : checkN n = 0
  · by_cases hl : 2048 < zs.length
    · rw [code_long hc hl] at h; cases h
    · rw [code_err hc hl] at h; exact ⟨hc, by omega, by omega⟩
  · rw [code_bad hc] at h; exact absurd h hc
theorem rows_step {n : NN} {T : List Int} {v : Int} {zs : List Int} (R : List (List Int)) : R ++ (rowsV n T (v :: zs)).drop 1 = (R ++ [fireN n T v]) ++ (rowsV n (fireN n T v) zs).drop 1 := by
  rw [rowsV, List.append_assoc]
  congr 1
  cases zs <;> rfl
theorem fires_one_yes {n : NN} {v : Int} {T F : List Int} (h : mayN n T v = true) : firesN n [v] T F = (1, fireN n T v, bumpF F v) := by rw [firesN, if_pos h]; rfl
theorem fires_one_no {n : NN} {v : Int} {T F : List Int} (h : ¬ mayN n T v = true) : firesN n [v] T F = (0, T, F) := by rw [firesN, if_neg h]
theorem err_cons_node {n : NN} {v : Int} {zs T : List Int} (h : ¬ nodeB n v = true) : errV n T (v :: zs) = 100 := by rw [errV, if_neg h]
theorem err_cons_may {n : NN} {v : Int} {zs T : List Int} (h : nodeB n v = true) (h2 : ¬ mayN n T v = true) : errV n T (v :: zs) = 180 := by rw [errV, if_pos h, if_neg h2]
theorem err_cons_yes {n : NN} {v : Int} {zs T : List Int} (h : nodeB n v = true) (h2 : mayN n T v = true) : errV n T (v :: zs) = errV n (fireN n T v) zs := by rw [errV, if_pos h, if_pos h2]
end Go.Proofs.YtimioiaoefhabaaGreat
namespace Go.Proofs.YtimioiaoefhabaaGreat
open Go.ChangeShapes Go.WideShapes Go.ChangeAt Go.RowKit
/-- Two states of a net, side by side. -/
structure TwoS (w : World) (n : NN) (B1 E1 K1 B2 E2 K2 : Nat) (T F T' F' : List Int) (U : World) : Prop where
  s : StE B1 E1 U K1 n T F
  t : StE B2 E2 U K2 n T' F'
  bel : Below w.heap.size w U
theorem TwoS.below {w : World} {n : NN} {B1 E1 K1 B2 E2 K2 : Nat} {T F T' F' : List Int} {U U' : World} (h : TwoS w n B1 E1 K1 B2 E2 K2 T F T' F' U) (hb : Below U.heap.size U U') : TwoS w n B1 E1 K1 B2 E2 K2 T F T' F' U' := ⟨h.s.below hb, h.t.below hb, h.bel.trans (hb.mono h.bel.size)⟩
theorem StE.bel {B E Q : Nat} {w w' : World} {K : Nat} {n : NN} {T F : List Int} (h : StE B E w K n T F) (hb : Below Q w w') (hQ : E ≤ Q) : StE B E w' K n T F := h.keep (fun k _ h2 => hb.block k (by omega)) hb.size
/-- Rows of numbers that came in. -/
def RowsN (W : World) (a : Option Addr) (I : List (List Int)) : Prop := I = [] ∨ ∃ b off, a = some ⟨b, off, none⟩ ∧ ∀ k, k < I.length → ∃ x c, W.cell? ⟨b, off + k, none⟩ = some (.slice x (nthRw I k).length c) ∧ Arg W x (nthRw I k).length c (nthRw I k)
theorem RowsN.below {w w' : World} {a : Option Addr} {I : List (List Int)} (h : RowsN w a I) (hb : Below w.heap.size w w') : RowsN w' a I := by
  rcases h with h | ⟨b, off, e, hc⟩
  · exact .inl h
  · refine .inr ⟨b, off, e, fun k hk => ?_⟩
    obtain ⟨x, c, h1, h2⟩ := hc k hk
    exact ⟨x, c, cellN_later hb h1, h2.below hb⟩
theorem StE.long {B E : Nat} {w : World} {K : Nat} {n : NN} {T F : List Int} (h : StE B E w K n T F) : T.length = n.arcs.length ∧ F.length = n.nodes.toNat := by
  obtain ⟨aA, cA, H1, H2, D1, D2, E1, E2, aT, cT, gF, h⟩ := h
  exact ⟨h.lT, h.lF⟩
theorem countsL {B E : Nat} (w : World) (K : Nat) (n : NN) (T F : List Int) (h : StE B E w K n T F) : Calls Tryz.prog 63 #[.pointer (some ⟨K, 0, none⟩)] w fun e w' => ∃ (a : Option Addr) (cap : Nat), e = .returned (.slice a n.arcs.length cap) ∧ CapR w.heap.size w' a cap T ∧ Below w.heap.size w w' := by
  have r := counts_any w K n T F h
  unfold RowEndN at r
  rw [h.long.1] at r
  exact r
theorem But.keepN {g : Nat} {w w' : World} (h : But g w w') {b k : Nat} {v : Value} (hn : b ≠ g) (hc : w.cell? ⟨b, k, none⟩ = some v) : w'.cell? ⟨b, k, none⟩ = some v := cell_block (h.block b (block_lt_of_cell hc) hn) hc
theorem drop_nthV {zs : List Int} {k : Nat} (h : k < zs.length) : zs.drop k = nth zs k :: zs.drop (k + 1) := by
  rw [List.drop_eq_getElem_cons h]; unfold nth; rw [List.getD_eq_getElem?_getD, List.getElem?_eq_getElem h]; rfl
/-- How a call that goes over the moments ends. -/
def MomE (P : Nat → World → Value → List (List Int) → Prop) (z : Value) (n : NN) (zs : List Int) (w : World) (e : Ending) (w' : World) : Prop :=
  (codeV n zs = 0 ∧ ∃ B v, e = .returned (.tuple #[v, .int .i64 0]) ∧ w.heap.size ≤ B ∧ B ≤ w'.heap.size ∧ P B w' v (rowsV n (startT n) zs) ∧ Below w.heap.size w w') ∨ (¬ codeV n zs = 0 ∧ e = .returned (.tuple #[z, .int .i64 (codeV n zs)]) ∧ Below w.heap.size w w')
set_option maxRecDepth 100000 in
set_option maxHeartbeats 16000000 in
theorem moments1_any (P : Nat → World → Value → List (List Int) → Prop) (n : NN) (kp : ∀ B w w' v R, P B w v R → (∀ k, B ≤ k → k < w.heap.size → w'.heap[k]? = w.heap[k]?) → w.heap.size ≤ w'.heap.size → P B w' v R)
    (hf : ∀ (B : Nat) (w : World) (d : Option Addr) (c : Nat) (T : List Int), CapR B w d c T → B ≤ w.heap.size → T.length = n.arcs.length → Calls Tryz.prog 42 #[.slice d n.arcs.length c] w fun e w' => ∃ v, e = .returned v ∧ P B w' v [T] ∧ Below B w w')
    (hn : ∀ (B : Nat) (w0 w : World) (v : Value) (R : List (List Int)) (d : Option Addr) (c : Nat) (L : List Int), P B w0 v R → B ≤ w0.heap.size → Below w0.heap.size w0 w → CapR w0.heap.size w d c L → R.length ≤ 1000000 → L.length = n.arcs.length → Calls Tryz.prog 43 #[v, .slice d n.arcs.length c] w fun e w' => ∃ v', e = .returned v' ∧ P B w' v' (R ++ [L]) ∧ Below B w w')
    (a : Option Addr) (c : Nat) (w : World) (h : AtN w a n.arcs) (hroom : n.arcs.length ≤ 4611686018427387904) (hna : a = none → n.arcs.length = 0 ∧ c = 0) (al : Option Addr) (cl : Nat) (zs : List Int) (hz : At w al zs) (hzl : zs.length ≤ 4611686018427387904) :
    Calls Tryz.prog 44 #[.agg #[.int .i64 n.nodes, .slice a n.arcs.length c], .func (.func 42) #[] #[], .func (.func 43) #[] #[], .slice al zs.length cl] w (MomE P (.slice none 0 0) n zs w) := by
  obtain ⟨ME, hME⟩ : ∃ R, MomE P (.slice none 0 0) n zs w = R := ⟨_, rfl⟩
  rw [hME]
  have HME := hiddenN hME
  have KP := hiddenN kp
  have HF := hiddenN hf
  have HN := hiddenN hn
  clear hME kp hf hn
  have b0 := (Below.refl w.heap.size w).alloc (Nat.le_refl _) (.cells #[.int .i64 n.nodes, .slice a n.arcs.length c] 24)
  have G0 := hiddenN (blkA_new 24 w #[.int .i64 n.nodes, .slice a n.arcs.length c])
  have B0 := hiddenN b0
  have NW := hiddenN (newS_any n a c _ (h.below b0) hroom hna)
  have HZ := hiddenN (hz.below b0)
  have z0 := G0.out.cell (k := 0) rfl
  have z1 := G0.out.cell (k := 1) rfl
  simp only [List.getElem_toArray, List.getElem_cons_zero, List.getElem_cons_succ] at z0 z1
  clear b0 h hz hna
  by_cases hc0 : checkN n = 0
  · have NY : Hid (Calls Tryz.prog 62 #[.agg #[.int .i64 n.nodes, .slice a n.arcs.length c]] (w.alloc (.cells #[.int .i64 n.nodes, .slice a n.arcs.length c] 24)) fun e w' => ∃ K E, e = .returned (.tuple #[.pointer (some ⟨K, 0, none⟩), .int .i64 0]) ∧ StE (w.alloc (.cells #[.int .i64 n.nodes, .slice a n.arcs.length c] 24)).heap.size E w' K n (startT n) (List.replicate n.nodes.toNat 0) ∧ Below (w.alloc (.cells #[.int .i64 n.nodes, .slice a n.arcs.length c] 24)).heap.size (w.alloc (.cells #[.int .i64 n.nodes, .slice a n.arcs.length c] 24)) w') := NW.out.mono fun e w' hh => by
      unfold NewE at hh
      rw [if_pos hc0] at hh
      exact hh
    clear NW
    by_cases hl : 2048 < zs.length
    · have CZ := hiddenN (code_long hc0 hl)
      have hli : (zs.length : Int) > 2048 := by omega
      clear hc0
      go_enter Tryz.func44, Tryz.ntmps44
      go_upto_region 1 with fail
      generalize w.alloc (.cells #[.int .i64 n.nodes, .slice a n.arcs.length c] 24) = W0 at *
      go_wp2_with (go_at_call 62; (with_reducible refine NY.out.mono ?_); rintro e W1 ⟨K, E, rfl, s1, b1⟩; have L1 := hiddenN (B0.out.trans (b1.mono B0.out.size)); clear s1 b1 z0 z1)
      rw [← HME.out]
      exact .inr ⟨by rw [CZ.out]; decide, by rw [CZ.out]; rfl, L1.out⟩
    · have CE := hiddenN (code_err hc0 hl)
      have hli : ¬ (zs.length : Int) > 2048 := by omega
      have HSN := hiddenN (check_sound hc0)
      clear hc0
      go_enter Tryz.func44, Tryz.ntmps44
      go_upto_region 1 with fail
      generalize w.alloc (.cells #[.int .i64 n.nodes, .slice a n.arcs.length c] 24) = W0 at *
      go_upto_region 3 with (go_at_call 62; (with_reducible refine NY.out.mono ?_); rintro e W1 ⟨K, E, rfl, s1, b1⟩; have S1 := hiddenN s1; have L1 := hiddenN b1; clear s1 b1 z0 z1)
      clear NY
      have HTL := hiddenN S1.out.long.1
      have hEB := S1.out.low
      have h01 : W0.heap.size ≤ W1.heap.size := L1.out.size
      have z0 := (G0.out.below L1.out).cell (k := 0) rfl
      simp only [List.getElem_toArray, List.getElem_cons_zero] at z0
      generalize hT0 : startT n = T0 at *
      have HT0 := hiddenN hT0
      clear hT0
      go_upto_region 8 with (first
        | (go_at_call 63; (with_reducible refine (countsL W1 K n _ _ S1.out).mono ?_); rintro e W2 ⟨d2, c2, rfl, r2, b2⟩; have S2 := hiddenN (S1.out.below b2); have L2 := hiddenN (L1.out.trans (b2.mono h01)); have h12 := b2.size; have FF := hiddenN (HF.out W1.heap.size W2 d2 c2 T0 r2 b2.size HTL.out); clear r2 b2)
        | (go_at_call 42; (with_reducible refine FF.out.mono ?_); rintro e W3 ⟨v3, rfl, p3, b3⟩; have P3 := hiddenN p3; have S3 := hiddenN (S2.out.keep (fun k _ hk => b3.block k (by omega)) b3.size); have L3 := hiddenN (L2.out.trans (b3.mono h01)); have h23 := b3.size; clear p3 b3))
      have HZ0 : Hid (∀ U, Below W0.heap.size W0 U → At U al zs) := fun U hb => HZ.out.below hb
      have HG0 : Hid (∀ U, Below W0.heap.size W0 U → U.cell? ⟨w.heap.size, 0, none⟩ = some (.int .i64 n.nodes)) := fun U hb => (G0.out.below hb).cell (k := 0) rfl
      have h13 : W1.heap.size ≤ W3.heap.size := Nat.le_trans h12 h23
      clear z0 HZ G0 S1 S2 L1 L2 FF h12 h23
      go_wp2
      go_loopg [13, 35] zs.length (fun gk u13 u35 wr => ∃ (k : Nat) (T F : List Int) (R : List (List Int)), k ≤ zs.length ∧ gk = zs.length - k ∧ u35 = .int .i64 (k : Int) ∧ errV n T (zs.drop k) = errV n T0 zs ∧ R ++ (rowsV n T (zs.drop k)).drop 1 = rowsV n T0 zs ∧ R.length = k + 1 ∧ P W1.heap.size wr u13 R ∧ StE W0.heap.size E wr K n T F ∧ Below W0.heap.size W0 wr ∧ W1.heap.size ≤ wr.heap.size)
      case atStart => exact ⟨0, T0, _, [T0], Nat.zero_le _, rfl, rfl, by rw [List.drop_zero], by rw [List.drop_zero]; cases zs <;> rfl, rfl, P3.out, S3.out, L3.out, h13⟩
      case round =>
        clear P3 S3 L3 h13
        obtain ⟨k, T, F, R, hk, rfl, rfl, he, hR, hRl, hP, hS, hL, hw⟩ := hrel
        have HE := hiddenN he
        have HR := hiddenN hR
        have HRL := hiddenN hRl
        have PR := hiddenN hP
        have SR := hiddenN hS
        have LR := hiddenN hL
        clear he hR hRl hP hS hL
        have z0 := HG0.out _ LR.out
        by_cases hlt : k < zs.length
        · have hki : (k : Int) < (zs.length : Int) := by omega
          have ed := drop_nthV hlt
          rcases HZ0.out _ LR.out with e | ⟨zb, zo, rfl, hc⟩
          · rw [e] at hlt; simp at hlt
          have c0 := hc k hlt
          rw [ed] at HE HR
          generalize nth zs k = v at *
          clear hc ed
          have hkb := HRL.out
          have bA := (Below.refl wr.heap.size wr).alloc (Nat.le_refl _) (.cells #[.int .i64 v] 3)
          have hwA : W0.heap.size ≤ (wr.alloc (.cells #[.int .i64 v] 3)).heap.size := by rw [World.size_alloc]; omega
          have hwB : W1.heap.size ≤ (wr.alloc (.cells #[.int .i64 v] 3)).heap.size := by rw [World.size_alloc]; omega
          have PA := hiddenN (KP.out _ _ _ _ _ PR.out (fun q _ hq => bA.block q hq) bA.size)
          have LA := hiddenN (LR.out.trans (bA.mono LR.out.size))
          have SA := hiddenN (SR.out.below bA)
          have FA := hiddenN (fires_any (wr.alloc (.cells #[.int .i64 v] 3)) K n T F SA.out (some ⟨wr.heap.size, 0, none⟩) 1 [v] (at_alloc1 wr v) (by simp) (fun x hx _ => by cases hx; exact .inr SR.out.low.2))
          have LRw := hiddenN (B0.out.trans (LR.out.mono B0.out.size))
          have LAw := hiddenN (B0.out.trans (LA.out.mono B0.out.size))
          by_cases hv : nodeB n v = true
          · have hvb : 0 ≤ v ∧ v < n.nodes := of_decide_eq_true hv
            have h1 : ¬ v < 0 := by omega
            have h2 : ¬ v ≥ n.nodes := by omega
            by_cases hm : mayN n T v = true
            · have F1 : Hid (Calls Tryz.prog 64 #[.pointer (some ⟨K, 0, none⟩), .slice (some ⟨wr.heap.size, 0, none⟩) 1 1] (wr.alloc (.cells #[.int .i64 v] 3)) fun e w' => e = .returned (.int .i64 1) ∧ StE W0.heap.size E w' K n (fireN n T v) (bumpF F v) ∧ Mid W0.heap.size E (wr.alloc (.cells #[.int .i64 v] 3)) w') := by
                have q := FA.out
                rw [fires_one_yes hm] at q
                exact q
              have HE2 := hiddenN ((err_cons_yes hv hm (zs := zs.drop (k + 1))).symm.trans HE.out)
              have HR2 := hiddenN ((rows_step R (n := n) (T := T) (v := v) (zs := zs.drop (k + 1))).symm.trans HR.out)
              clear hv hvb hm FA HE HR bA LRw LAw
              generalize fireN n T v = T' at *
              generalize bumpF F v = F' at *
              go_upto_region 15 with (go_at_call 64; (with_reducible refine F1.out.mono ?_); rintro e W5 ⟨rfl, s5, m5⟩; have S5 := hiddenN s5; have P5 := hiddenN (KP.out _ _ _ _ _ PA.out (fun q h1 h2 => m5.block q h2 (.inr (by omega))) m5.size); have L5 := hiddenN (LA.out.trans (m5.below hwA)); have h5 := Nat.le_trans hwB m5.size; clear s5 m5)
              have CT := hiddenN (countsL W5 K n _ _ S5.out)
              have HL5 := hiddenN S5.out.long.1
              clear F1 PA LA SA PR LR SR c0 z0 hwA hwB
              go_wp2_with (first
                | (go_at_call 63; (with_reducible refine CT.out.mono ?_); rintro e W6 ⟨d6, c6, rfl, r6, b6⟩; have S6 := hiddenN (S5.out.below b6); have L6 := hiddenN (L5.out.trans (b6.mono L5.out.size)); have h6 := b6.size; have NN := hiddenN (HN.out W1.heap.size W5 W6 _ R d6 c6 T' P5.out h5 b6 r6 (by omega) HL5.out); clear r6 b6)
                | (go_at_call 43; (with_reducible refine NN.out.mono ?_); rintro e W7 ⟨v7, rfl, p7, b7⟩; have P7 := hiddenN p7; have S7 := hiddenN (S6.out.keep (fun q _ hq => b7.block q (by omega)) b7.size); have L7 := hiddenN (L6.out.trans (b7.mono h01)); have h7 := Nat.le_trans (Nat.le_trans h5 h6) b7.size; clear p7 b7))
              go_roundg (zs.length - (k + 1))
              case measure => omega
              case rel => exact ⟨k + 1, T', F', R ++ [T'], by omega, rfl, by go_num, HE2.out, HR2.out, by rw [List.length_append, HRL.out]; rfl, P7.out, S7.out, L7.out, h7⟩
            · have F1 : Hid (Calls Tryz.prog 64 #[.pointer (some ⟨K, 0, none⟩), .slice (some ⟨wr.heap.size, 0, none⟩) 1 1] (wr.alloc (.cells #[.int .i64 v] 3)) fun e w' => e = .returned (.int .i64 0) ∧ StE W0.heap.size E w' K n T F ∧ Mid W0.heap.size E (wr.alloc (.cells #[.int .i64 v] 3)) w') := by
                have q := FA.out
                rw [fires_one_no hm] at q
                exact q
              have CV : Hid (codeV n zs = 180) := by show _ = _; rw [CE.out, ← HE.out, err_cons_may hv hm]; rfl
              clear hv hvb hm FA HE HR bA
              go_wp2_with (go_at_call 64; (with_reducible refine F1.out.mono ?_); rintro e W5 ⟨rfl, -, m5⟩; have L5 := hiddenN (LAw.out.trans ((m5.below hwA).mono B0.out.size)); clear m5)
              rw [← HME.out]
              exact .inr ⟨by rw [CV.out]; decide, by (rw [CV.out]; try rfl), L5.out⟩
          · have CV : Hid (codeV n zs = 100) := by show _ = _; rw [CE.out, ← HE.out, err_cons_node hv]; rfl
            have hvb : ¬ (0 ≤ v ∧ v < n.nodes) := fun h => hv (decide_eq_true h)
            clear FA HE HR bA PA LA SA LAw hv
            by_cases h1 : v < 0
            · go_wp2
              rw [← HME.out]
              exact .inr ⟨by rw [CV.out]; decide, by (rw [CV.out]; try rfl), LRw.out⟩
            · have h2 : v ≥ n.nodes := by omega
              go_wp2
              rw [← HME.out]
              exact .inr ⟨by rw [CV.out]; decide, by (rw [CV.out]; try rfl), LRw.out⟩
        · have ek : zs.length = k := by omega
          have hki : ¬ (k : Int) < (zs.length : Int) := by omega
          have hd : zs.drop k = [] := by rw [← ek]; exact List.drop_length
          have CV : Hid (codeV n zs = 0) := by show _ = _; rw [CE.out, ← HE.out, hd]; rfl
          have HR2 : Hid (R = rowsV n T0 zs) := by
            show _ = _
            have q := HR.out
            rw [hd] at q
            rw [← q, rowsV]
            simp
          have LRw := hiddenN (B0.out.trans (LR.out.mono B0.out.size))
          clear HE HR ek hd
          go_wp2
          rw [← HME.out]
          refine .inl ⟨CV.out, W1.heap.size, _, rfl, ?_, hw, ?_, LRw.out⟩
          · exact Nat.le_trans B0.out.size h01
          · rw [HT0.out, ← HR2.out]; exact PR.out
  · have NO : Hid (Calls Tryz.prog 62 #[.agg #[.int .i64 n.nodes, .slice a n.arcs.length c]] (w.alloc (.cells #[.int .i64 n.nodes, .slice a n.arcs.length c] 24)) fun e w' => e = .returned (.tuple #[.pointer none, .int .i64 (checkN n)]) ∧ Below (w.alloc (.cells #[.int .i64 n.nodes, .slice a n.arcs.length c] 24)).heap.size (w.alloc (.cells #[.int .i64 n.nodes, .slice a n.arcs.length c] 24)) w') := NW.out.mono fun e w' hh => by
      unfold NewE at hh
      rw [if_neg hc0] at hh
      exact hh
    have CB := hiddenN (code_bad (zs := zs) hc0)
    have HC0 := hiddenN hc0
    have hcb : (checkN n != 0) = true := by simpa using hc0
    clear NW hc0
    generalize checkN n = cd at *
    go_enter Tryz.func44, Tryz.ntmps44
    go_upto_region 1 with fail
    generalize w.alloc (.cells #[.int .i64 n.nodes, .slice a n.arcs.length c] 24) = W0 at *
    go_wp2_with (go_at_call 62; (with_reducible refine NO.out.mono ?_); rintro e W1 ⟨rfl, b1⟩; have L1 := hiddenN (B0.out.trans (b1.mono B0.out.size)); clear b1 z0 z1)
    rw [← HME.out]
    exact .inr ⟨by rw [CB.out]; exact HC0.out, by rw [CB.out]; rfl, L1.out⟩
set_option maxRecDepth 100000 in
set_option maxHeartbeats 16000000 in
theorem moments2_any (P : Nat → World → Value → List (List Int) → Prop) (n : NN) (kp : ∀ B w w' v R, P B w v R → (∀ k, B ≤ k → k < w.heap.size → w'.heap[k]? = w.heap[k]?) → w.heap.size ≤ w'.heap.size → P B w' v R)
    (hf : ∀ (B : Nat) (w : World) (d : Option Addr) (c : Nat) (T : List Int), CapR B w d c T → B ≤ w.heap.size → T.length = n.arcs.length → Calls Tryz.prog 73 #[.slice d n.arcs.length c] w fun e w' => ∃ v, e = .returned v ∧ P B w' v [T] ∧ Below B w w')
    (hn : ∀ (B : Nat) (w0 w : World) (v : Value) (R : List (List Int)) (d : Option Addr) (c : Nat) (L : List Int), P B w0 v R → B ≤ w0.heap.size → Below w0.heap.size w0 w → CapR w0.heap.size w d c L → R.length ≤ 1000000 → L.length = n.arcs.length → Calls Tryz.prog 75 #[v, .slice d n.arcs.length c] w fun e w' => ∃ v', e = .returned v' ∧ P B w' v' (R ++ [L]) ∧ Below B w w')
    (a : Option Addr) (c : Nat) (w : World) (h : AtN w a n.arcs) (hroom : n.arcs.length ≤ 4611686018427387904) (hna : a = none → n.arcs.length = 0 ∧ c = 0) (al : Option Addr) (cl : Nat) (zs : List Int) (hz : At w al zs) (hzl : zs.length ≤ 4611686018427387904) :
    Calls Tryz.prog 74 #[.agg #[.int .i64 n.nodes, .slice a n.arcs.length c], .func (.func 73) #[] #[], .func (.func 75) #[] #[], .slice al zs.length cl] w (MomE P (.slice none 0 0) n zs w) := by
  obtain ⟨ME, hME⟩ : ∃ R, MomE P (.slice none 0 0) n zs w = R := ⟨_, rfl⟩
  rw [hME]
  have HME := hiddenN hME
  have KP := hiddenN kp
  have HF := hiddenN hf
  have HN := hiddenN hn
  clear hME kp hf hn
  have b0 := (Below.refl w.heap.size w).alloc (Nat.le_refl _) (.cells #[.int .i64 n.nodes, .slice a n.arcs.length c] 24)
  have G0 := hiddenN (blkA_new 24 w #[.int .i64 n.nodes, .slice a n.arcs.length c])
  have B0 := hiddenN b0
  have NW := hiddenN (newS_any n a c _ (h.below b0) hroom hna)
  have HZ := hiddenN (hz.below b0)
  have z0 := G0.out.cell (k := 0) rfl
  have z1 := G0.out.cell (k := 1) rfl
  simp only [List.getElem_toArray, List.getElem_cons_zero, List.getElem_cons_succ] at z0 z1
  clear b0 h hz hna
  by_cases hc0 : checkN n = 0
  · have NY : Hid (Calls Tryz.prog 62 #[.agg #[.int .i64 n.nodes, .slice a n.arcs.length c]] (w.alloc (.cells #[.int .i64 n.nodes, .slice a n.arcs.length c] 24)) fun e w' => ∃ K E, e = .returned (.tuple #[.pointer (some ⟨K, 0, none⟩), .int .i64 0]) ∧ StE (w.alloc (.cells #[.int .i64 n.nodes, .slice a n.arcs.length c] 24)).heap.size E w' K n (startT n) (List.replicate n.nodes.toNat 0) ∧ Below (w.alloc (.cells #[.int .i64 n.nodes, .slice a n.arcs.length c] 24)).heap.size (w.alloc (.cells #[.int .i64 n.nodes, .slice a n.arcs.length c] 24)) w') := NW.out.mono fun e w' hh => by
      unfold NewE at hh
      rw [if_pos hc0] at hh
      exact hh
    clear NW
    by_cases hl : 2048 < zs.length
    · have CZ := hiddenN (code_long hc0 hl)
      have hli : (zs.length : Int) > 2048 := by omega
      clear hc0
      go_enter Tryz.func74, Tryz.ntmps74
      go_upto_region 1 with fail
      generalize w.alloc (.cells #[.int .i64 n.nodes, .slice a n.arcs.length c] 24) = W0 at *
      go_wp2_with (go_at_call 62; (with_reducible refine NY.out.mono ?_); rintro e W1 ⟨K, E, rfl, s1, b1⟩; have L1 := hiddenN (B0.out.trans (b1.mono B0.out.size)); clear s1 b1 z0 z1)
      rw [← HME.out]
      exact .inr ⟨by rw [CZ.out]; decide, by rw [CZ.out]; rfl, L1.out⟩
    · have CE := hiddenN (code_err hc0 hl)
      have hli : ¬ (zs.length : Int) > 2048 := by omega
      have HSN := hiddenN (check_sound hc0)
      clear hc0
      go_enter Tryz.func74, Tryz.ntmps74
      go_upto_region 1 with fail
      generalize w.alloc (.cells #[.int .i64 n.nodes, .slice a n.arcs.length c] 24) = W0 at *
      go_upto_region 3 with (go_at_call 62; (with_reducible refine NY.out.mono ?_); rintro e W1 ⟨K, E, rfl, s1, b1⟩; have S1 := hiddenN s1; have L1 := hiddenN b1; clear s1 b1 z0 z1)
      clear NY
      have HTL := hiddenN S1.out.long.1
      have hEB := S1.out.low
      have h01 : W0.heap.size ≤ W1.heap.size := L1.out.size
      have z0 := (G0.out.below L1.out).cell (k := 0) rfl
      simp only [List.getElem_toArray, List.getElem_cons_zero] at z0
      generalize hT0 : startT n = T0 at *
      have HT0 := hiddenN hT0
      clear hT0
      go_upto_region 8 with (first
        | (go_at_call 63; (with_reducible refine (countsL W1 K n _ _ S1.out).mono ?_); rintro e W2 ⟨d2, c2, rfl, r2, b2⟩; have S2 := hiddenN (S1.out.below b2); have L2 := hiddenN (L1.out.trans (b2.mono h01)); have h12 := b2.size; have FF := hiddenN (HF.out W1.heap.size W2 d2 c2 T0 r2 b2.size HTL.out); clear r2 b2)
        | (go_at_call 73; (with_reducible refine FF.out.mono ?_); rintro e W3 ⟨v3, rfl, p3, b3⟩; have P3 := hiddenN p3; have S3 := hiddenN (S2.out.keep (fun k _ hk => b3.block k (by omega)) b3.size); have L3 := hiddenN (L2.out.trans (b3.mono h01)); have h23 := b3.size; clear p3 b3))
      have HZ0 : Hid (∀ U, Below W0.heap.size W0 U → At U al zs) := fun U hb => HZ.out.below hb
      have HG0 : Hid (∀ U, Below W0.heap.size W0 U → U.cell? ⟨w.heap.size, 0, none⟩ = some (.int .i64 n.nodes)) := fun U hb => (G0.out.below hb).cell (k := 0) rfl
      have h13 : W1.heap.size ≤ W3.heap.size := Nat.le_trans h12 h23
      clear z0 HZ G0 S1 S2 L1 L2 FF h12 h23
      go_wp2
      go_loopg [13, 35] zs.length (fun gk u13 u35 wr => ∃ (k : Nat) (T F : List Int) (R : List (List Int)), k ≤ zs.length ∧ gk = zs.length - k ∧ u35 = .int .i64 (k : Int) ∧ errV n T (zs.drop k) = errV n T0 zs ∧ R ++ (rowsV n T (zs.drop k)).drop 1 = rowsV n T0 zs ∧ R.length = k + 1 ∧ P W1.heap.size wr u13 R ∧ StE W0.heap.size E wr K n T F ∧ Below W0.heap.size W0 wr ∧ W1.heap.size ≤ wr.heap.size)
      case atStart => exact ⟨0, T0, _, [T0], Nat.zero_le _, rfl, rfl, by rw [List.drop_zero], by rw [List.drop_zero]; cases zs <;> rfl, rfl, P3.out, S3.out, L3.out, h13⟩
      case round =>
        clear P3 S3 L3 h13
        obtain ⟨k, T, F, R, hk, rfl, rfl, he, hR, hRl, hP, hS, hL, hw⟩ := hrel
        have HE := hiddenN he
        have HR := hiddenN hR
        have HRL := hiddenN hRl
        have PR := hiddenN hP
        have SR := hiddenN hS
        have LR := hiddenN hL
        clear he hR hRl hP hS hL
        have z0 := HG0.out _ LR.out
        by_cases hlt : k < zs.length
        · have hki : (k : Int) < (zs.length : Int) := by omega
          have ed := drop_nthV hlt
          rcases HZ0.out _ LR.out with e | ⟨zb, zo, rfl, hc⟩
          · rw [e] at hlt; simp at hlt
          have c0 := hc k hlt
          rw [ed] at HE HR
          generalize nth zs k = v at *
          clear hc ed
          have hkb := HRL.out
          have bA := (Below.refl wr.heap.size wr).alloc (Nat.le_refl _) (.cells #[.int .i64 v] 3)
          have hwA : W0.heap.size ≤ (wr.alloc (.cells #[.int .i64 v] 3)).heap.size := by rw [World.size_alloc]; omega
          have hwB : W1.heap.size ≤ (wr.alloc (.cells #[.int .i64 v] 3)).heap.size := by rw [World.size_alloc]; omega
          have PA := hiddenN (KP.out _ _ _ _ _ PR.out (fun q _ hq => bA.block q hq) bA.size)
          have LA := hiddenN (LR.out.trans (bA.mono LR.out.size))
          have SA := hiddenN (SR.out.below bA)
          have FA := hiddenN (fires_any (wr.alloc (.cells #[.int .i64 v] 3)) K n T F SA.out (some ⟨wr.heap.size, 0, none⟩) 1 [v] (at_alloc1 wr v) (by simp) (fun x hx _ => by cases hx; exact .inr SR.out.low.2))
          have LRw := hiddenN (B0.out.trans (LR.out.mono B0.out.size))
          have LAw := hiddenN (B0.out.trans (LA.out.mono B0.out.size))
          by_cases hv : nodeB n v = true
          · have hvb : 0 ≤ v ∧ v < n.nodes := of_decide_eq_true hv
            have h1 : ¬ v < 0 := by omega
            have h2 : ¬ v ≥ n.nodes := by omega
            by_cases hm : mayN n T v = true
            · have F1 : Hid (Calls Tryz.prog 64 #[.pointer (some ⟨K, 0, none⟩), .slice (some ⟨wr.heap.size, 0, none⟩) 1 1] (wr.alloc (.cells #[.int .i64 v] 3)) fun e w' => e = .returned (.int .i64 1) ∧ StE W0.heap.size E w' K n (fireN n T v) (bumpF F v) ∧ Mid W0.heap.size E (wr.alloc (.cells #[.int .i64 v] 3)) w') := by
                have q := FA.out
                rw [fires_one_yes hm] at q
                exact q
              have HE2 := hiddenN ((err_cons_yes hv hm (zs := zs.drop (k + 1))).symm.trans HE.out)
              have HR2 := hiddenN ((rows_step R (n := n) (T := T) (v := v) (zs := zs.drop (k + 1))).symm.trans HR.out)
              clear hv hvb hm FA HE HR bA LRw LAw
              generalize fireN n T v = T' at *
              generalize bumpF F v = F' at *
              go_upto_region 15 with (go_at_call 64; (with_reducible refine F1.out.mono ?_); rintro e W5 ⟨rfl, s5, m5⟩; have S5 := hiddenN s5; have P5 := hiddenN (KP.out _ _ _ _ _ PA.out (fun q h1 h2 => m5.block q h2 (.inr (by omega))) m5.size); have L5 := hiddenN (LA.out.trans (m5.below hwA)); have h5 := Nat.le_trans hwB m5.size; clear s5 m5)
              have CT := hiddenN (countsL W5 K n _ _ S5.out)
              have HL5 := hiddenN S5.out.long.1
              clear F1 PA LA SA PR LR SR c0 z0 hwA hwB
              go_wp2_with (first
                | (go_at_call 63; (with_reducible refine CT.out.mono ?_); rintro e W6 ⟨d6, c6, rfl, r6, b6⟩; have S6 := hiddenN (S5.out.below b6); have L6 := hiddenN (L5.out.trans (b6.mono L5.out.size)); have h6 := b6.size; have NN := hiddenN (HN.out W1.heap.size W5 W6 _ R d6 c6 T' P5.out h5 b6 r6 (by omega) HL5.out); clear r6 b6)
                | (go_at_call 75; (with_reducible refine NN.out.mono ?_); rintro e W7 ⟨v7, rfl, p7, b7⟩; have P7 := hiddenN p7; have S7 := hiddenN (S6.out.keep (fun q _ hq => b7.block q (by omega)) b7.size); have L7 := hiddenN (L6.out.trans (b7.mono h01)); have h7 := Nat.le_trans (Nat.le_trans h5 h6) b7.size; clear p7 b7))
              go_roundg (zs.length - (k + 1))
              case measure => omega
              case rel => exact ⟨k + 1, T', F', R ++ [T'], by omega, rfl, by go_num, HE2.out, HR2.out, by rw [List.length_append, HRL.out]; rfl, P7.out, S7.out, L7.out, h7⟩
            · have F1 : Hid (Calls Tryz.prog 64 #[.pointer (some ⟨K, 0, none⟩), .slice (some ⟨wr.heap.size, 0, none⟩) 1 1] (wr.alloc (.cells #[.int .i64 v] 3)) fun e w' => e = .returned (.int .i64 0) ∧ StE W0.heap.size E w' K n T F ∧ Mid W0.heap.size E (wr.alloc (.cells #[.int .i64 v] 3)) w') := by
                have q := FA.out
                rw [fires_one_no hm] at q
                exact q
              have CV : Hid (codeV n zs = 180) := by show _ = _; rw [CE.out, ← HE.out, err_cons_may hv hm]; rfl
              clear hv hvb hm FA HE HR bA
              go_wp2_with (go_at_call 64; (with_reducible refine F1.out.mono ?_); rintro e W5 ⟨rfl, -, m5⟩; have L5 := hiddenN (LAw.out.trans ((m5.below hwA).mono B0.out.size)); clear m5)
              rw [← HME.out]
              exact .inr ⟨by rw [CV.out]; decide, by (rw [CV.out]; try rfl), L5.out⟩
          · have CV : Hid (codeV n zs = 100) := by show _ = _; rw [CE.out, ← HE.out, err_cons_node hv]; rfl
            have hvb : ¬ (0 ≤ v ∧ v < n.nodes) := fun h => hv (decide_eq_true h)
            clear FA HE HR bA PA LA SA LAw hv
            by_cases h1 : v < 0
            · go_wp2
              rw [← HME.out]
              exact .inr ⟨by rw [CV.out]; decide, by (rw [CV.out]; try rfl), LRw.out⟩
            · have h2 : v ≥ n.nodes := by omega
              go_wp2
              rw [← HME.out]
              exact .inr ⟨by rw [CV.out]; decide, by (rw [CV.out]; try rfl), LRw.out⟩
        · have ek : zs.length = k := by omega
          have hki : ¬ (k : Int) < (zs.length : Int) := by omega
          have hd : zs.drop k = [] := by rw [← ek]; exact List.drop_length
          have CV : Hid (codeV n zs = 0) := by show _ = _; rw [CE.out, ← HE.out, hd]; rfl
          have HR2 : Hid (R = rowsV n T0 zs) := by
            show _ = _
            have q := HR.out
            rw [hd] at q
            rw [← q, rowsV]
            simp
          have LRw := hiddenN (B0.out.trans (LR.out.mono B0.out.size))
          clear HE HR ek hd
          go_wp2
          rw [← HME.out]
          refine .inl ⟨CV.out, W1.heap.size, _, rfl, ?_, hw, ?_, LRw.out⟩
          · exact Nat.le_trans B0.out.size h01
          · rw [HT0.out, ← HR2.out]; exact PR.out
  · have NO : Hid (Calls Tryz.prog 62 #[.agg #[.int .i64 n.nodes, .slice a n.arcs.length c]] (w.alloc (.cells #[.int .i64 n.nodes, .slice a n.arcs.length c] 24)) fun e w' => e = .returned (.tuple #[.pointer none, .int .i64 (checkN n)]) ∧ Below (w.alloc (.cells #[.int .i64 n.nodes, .slice a n.arcs.length c] 24)).heap.size (w.alloc (.cells #[.int .i64 n.nodes, .slice a n.arcs.length c] 24)) w') := NW.out.mono fun e w' hh => by
      unfold NewE at hh
      rw [if_neg hc0] at hh
      exact hh
    have CB := hiddenN (code_bad (zs := zs) hc0)
    have HC0 := hiddenN hc0
    have hcb : (checkN n != 0) = true := by simpa using hc0
    clear NW hc0
    generalize checkN n = cd at *
    go_enter Tryz.func74, Tryz.ntmps74
    go_upto_region 1 with fail
    generalize w.alloc (.cells #[.int .i64 n.nodes, .slice a n.arcs.length c] 24) = W0 at *
    go_wp2_with (go_at_call 62; (with_reducible refine NO.out.mono ?_); rintro e W1 ⟨rfl, b1⟩; have L1 := hiddenN (B0.out.trans (b1.mono B0.out.size)); clear b1 z0 z1)
    rw [← HME.out]
    exact .inr ⟨by rw [CB.out]; exact HC0.out, by rw [CB.out]; rfl, L1.out⟩
theorem sizNet : (Tryz.prog.info? 24).map (·.size) = some 2 := by kernel_rfl
def nodB (m v : Int) : Bool := decide (0 ≤ v) && decide (v < m)
def ratB (k : Int) : Bool := decide (1 ≤ k) && decide (k ≤ 64)
set_option maxRecDepth 100000 in
theorem rnode_any (m v : Int) (s : Value) (w : World) : Calls Tryz.prog 65 #[.agg #[.int .i64 m, s], .int .i64 v] w fun e w' => e = .returned (.bool (nodB m v)) ∧ Below w.heap.size w w' := by
  have ba := hiddenN ((Below.refl w.heap.size w).alloc (Nat.le_refl _) (.cells #[.int .i64 m, s] 24))
  have z0 := (blkA_new 24 w #[.int .i64 m, s]).cell (k := 0) rfl
  simp only [List.getElem_toArray, List.getElem_cons_zero] at z0
  unfold nodB
  by_cases h1 : 0 ≤ v
  · rw [decide_eq_true h1]
    by_cases h2 : v < m
    · rw [decide_eq_true h2]
      go_enter Tryz.func65, Tryz.ntmps65
      go_wp2
      go_ret
      exact ⟨rfl, ba.out⟩
    · rw [decide_eq_false h2]
      go_enter Tryz.func65, Tryz.ntmps65
      go_wp2
      go_ret
      exact ⟨rfl, ba.out⟩
  · rw [decide_eq_false h1]
    go_enter Tryz.func65, Tryz.ntmps65
    go_wp2
    go_ret
    exact ⟨rfl, ba.out⟩
theorem rrate_any (k : Int) (w : World) : Calls Tryz.prog 66 #[.int .i64 k] w fun e w' => e = .returned (.bool (ratB k)) ∧ w' = w := by
  unfold ratB
  by_cases h1 : 1 ≤ k
  · rw [decide_eq_true h1]
    by_cases h2 : k ≤ 64
    · rw [decide_eq_true h2]
      go_enter Tryz.func66, Tryz.ntmps66
      go_wp2
      go_ret
      exact ⟨rfl, rfl⟩
    · rw [decide_eq_false h2]
      go_enter Tryz.func66, Tryz.ntmps66
      go_wp2
      go_ret
      exact ⟨rfl, rfl⟩
  · rw [decide_eq_false h1]
    go_enter Tryz.func66, Tryz.ntmps66
    go_wp2
    go_ret
    exact ⟨rfl, rfl⟩
theorem nodB_false {m v : Int} : nodB m v = false ↔ ¬ (0 ≤ v ∧ v < m) := by unfold nodB; rw [← Bool.not_eq_true]; simp
theorem ratB_false {k : Int} : ratB k = false ↔ ¬ (1 ≤ k ∧ k ≤ 64) := by unfold ratB; rw [← Bool.not_eq_true]; simp
theorem arcE_ref (m : Int) (a : NA) : arcE m a = if nodB m a.f = false then 100 else if nodB m a.t = false then 100 else if ratB a.g = false then 101 else if ratB a.k = false then 101 else if a.s < 0 then 88 else if 256 < a.s then 88 else 0 := by
  unfold arcE
  simp only [nodB_false, ratB_false]
  repeat' split
  all_goals first | rfl | omega
set_option maxRecDepth 100000 in
set_option maxHeartbeats 16000000 in
theorem rcheck10_any (n : NN) (a : Option Addr) (c : Nat) (w : World) (h : AtN w a n.arcs) (hl : n.arcs.length ≤ 4611686018427387904) : Calls Tryz.prog 46 #[.agg #[.int .i64 n.nodes, .slice a n.arcs.length c]] w fun e w' => e = .returned (.int .i64 (checkN n)) ∧ Below w.heap.size w w' := by
  obtain ⟨m, L⟩ := n
  simp only at *
  have ba := (Below.refl w.heap.size w).alloc (Nat.le_refl _) (.cells #[.int .i64 m, .slice a L.length c] 24)
  have g0 := hiddenN (blkA_new 24 w #[.int .i64 m, .slice a L.length c])
  have HA := hiddenN (h.below ba)
  have BA := hiddenN ba
  clear h ba
  obtain ⟨N, hN⟩ : ∃ N, L.length = N := ⟨_, rfl⟩
  rw [hN] at g0 HA BA hl ⊢
  have y0 := g0.out.cell (k := 0) rfl
  have y1 := g0.out.cell (k := 1) rfl
  simp only [List.getElem_toArray, List.getElem_cons_zero, List.getElem_cons_succ] at y0 y1
  by_cases c1 : m < 1
  · have e1 : checkN ⟨m, L⟩ = 100 := by unfold checkN; rw [if_pos (by show m < 1 ∨ 32 < m; omega)]
    rw [e1]
    go_enter Tryz.func46, Tryz.ntmps46
    go_wp2
    go_ret
    exact ⟨rfl, BA.out⟩
  by_cases c2 : 32 < m
  · have e1 : checkN ⟨m, L⟩ = 100 := by unfold checkN; rw [if_pos (by show m < 1 ∨ 32 < m; omega)]
    rw [e1]
    go_enter Tryz.func46, Tryz.ntmps46
    go_wp2
    go_ret
    exact ⟨rfl, BA.out⟩
  by_cases c3 : 96 < N
  · have e1 : checkN ⟨m, L⟩ = 81 := by unfold checkN; rw [if_neg (by show ¬ (m < 1 ∨ 32 < m); omega), if_pos (by show 96 < L.length; omega)]
    rw [e1]
    have hk : (96 : Int) < (N : Int) := by omega
    go_enter Tryz.func46, Tryz.ntmps46
    go_wp2
    go_ret
    exact ⟨rfl, BA.out⟩
  have e1 : checkN ⟨m, L⟩ = arcsE m L := by unfold checkN; rw [if_neg (by show ¬ (m < 1 ∨ 32 < m); omega), if_neg (by show ¬ 96 < L.length; omega)]
  rw [e1]
  have hk : ¬ (96 : Int) < (N : Int) := by omega
  have ND : Hid (∀ m v s w1, Calls Tryz.prog 65 #[.agg #[.int .i64 m, s], .int .i64 v] w1 fun e w' => e = .returned (.bool (nodB m v)) ∧ Below w1.heap.size w1 w') := fun m v s w1 => rnode_any m v s w1
  have RT : Hid (∀ k w1, Calls Tryz.prog 66 #[.int .i64 k] w1 fun e w' => e = .returned (.bool (ratB k)) ∧ w' = w1) := fun k w1 => rrate_any k w1
  go_enter Tryz.func46, Tryz.ntmps46
  go_upto_region 1 with fail
  generalize w.alloc (.cells #[.int .i64 m, .slice a N c] 24) = W0 at *
  go_wp2
  clear y0 y1
  go_loopg [3] N (fun gk v wr => ∃ k : Nat, k ≤ N ∧ gk = N - k ∧ v = .int .i64 (k : Int) ∧ Below W0.heap.size W0 wr ∧ ∀ j, j < k → arcE m (nthNa L j) = 0)
  case atStart => exact ⟨0, Nat.zero_le _, rfl, rfl, Below.refl _ _, fun j hj => by omega⟩
  case round =>
    obtain ⟨k, hkN, rfl, rfl, hB, hE⟩ := hrel
    have HB := hiddenN hB
    have HE := hiddenN hE
    clear hB hE
    have GG := hiddenN (g0.out.below HB.out)
    have y0 := GG.out.cell (k := 0) rfl
    have y1 := GG.out.cell (k := 1) rfl
    simp only [List.getElem_toArray, List.getElem_cons_zero, List.getElem_cons_succ] at y0 y1
    by_cases hlt : k < N
    · have hki : (k : Int) < (N : Int) := by omega
      rcases HA.out.below HB.out with e | ⟨b, off, rfl, hc⟩
      · rw [e] at hN; simp at hN; omega
      obtain ⟨d0, d1, d2, d3, d4⟩ := hc k (by omega)
      have HS := hiddenN (arcs_some (m := m) (L := L) (i := k) (by omega) HE.out)
      have HZ : Hid (arcE m (nthNa L k) = 0 → ∀ j, j < k + 1 → arcE m (nthNa L j) = 0) := fun h0 j hj => by
        by_cases e : j = k
        · subst e; exact h0
        · exact HE.out j (by omega)
      have ER := arcE_ref m (nthNa L k)
      generalize nthNa L k = x at *
      obtain ⟨f, t, g, kk, s⟩ := x
      simp only at ER d0 d1 d2 d3 d4
      clear hc
      go_upto_region 9 with fail
      have bc := (Below.refl wr.heap.size wr).alloc (Nat.le_refl _) (.cells #[.int .i64 f, .int .i64 t, .int .i64 g, .int .i64 kk, .int .i64 s] 53)
      have G2 := hiddenN (GG.out.below bc)
      have XA := hiddenN (blkA_new 53 wr #[.int .i64 f, .int .i64 t, .int .i64 g, .int .i64 kk, .int .i64 s])
      have B2 := hiddenN (HB.out.trans (bc.mono HB.out.size))
      obtain ⟨ab, hab⟩ : ∃ q, wr.heap.size = q := ⟨_, rfl⟩
      rw [hab] at XA ⊢
      clear bc GG d0 d1 d2 d3 d4 y0 y1
      generalize wr.alloc (.cells #[.int .i64 f, .int .i64 t, .int .i64 g, .int .i64 kk, .int .i64 s] 53) = W1 at *
      have y0 := G2.out.cell (k := 0) rfl
      have y1 := G2.out.cell (k := 1) rfl
      have x0 := XA.out.cell (k := 0) rfl
      have x1 := XA.out.cell (k := 1) rfl
      have x2 := XA.out.cell (k := 2) rfl
      have x3 := XA.out.cell (k := 3) rfl
      have x4 := XA.out.cell (k := 4) rfl
      simp only [List.getElem_toArray, List.getElem_cons_zero, List.getElem_cons_succ] at y0 y1 x0 x1 x2 x3 x4
      cases h0 : nodB m f with
      | false =>
        simp [h0] at ER
        go_wp2_with (first | (go_at_call 65; (with_reducible refine (ND.out _ _ _ _).mono ?_); rintro e W2 ⟨rfl, b2⟩; rw [h0]; have B3 := hiddenN (B2.out.trans (b2.mono B2.out.size)); have G3 := hiddenN (G2.out.below b2); have X3 := hiddenN (XA.out.below b2); clear b2 y0 y1 x0 x1 x2 x3 x4; have y0 := G3.out.cell (k := 0) rfl; have y1 := G3.out.cell (k := 1) rfl; have x0 := X3.out.cell (k := 0) rfl; have x1 := X3.out.cell (k := 1) rfl; have x2 := X3.out.cell (k := 2) rfl; have x3 := X3.out.cell (k := 3) rfl; have x4 := X3.out.cell (k := 4) rfl; simp only [List.getElem_toArray, List.getElem_cons_zero, List.getElem_cons_succ] at y0 y1 x0 x1 x2 x3 x4; clear G2 XA B2))
        go_ret
        rw [HS.out (by rw [ER]; decide), ER]
        exact ⟨rfl, BA.out.trans (B3.out.mono BA.out.size)⟩
      | true =>
        cases h1 : nodB m t with
        | false =>
          simp [h0, h1] at ER
          go_wp2_with (first | (go_at_call 65; (with_reducible refine (ND.out _ _ _ _).mono ?_); rintro e W2 ⟨rfl, b2⟩; rw [h0]; have B3 := hiddenN (B2.out.trans (b2.mono B2.out.size)); have G3 := hiddenN (G2.out.below b2); have X3 := hiddenN (XA.out.below b2); clear b2 y0 y1 x0 x1 x2 x3 x4; have y0 := G3.out.cell (k := 0) rfl; have y1 := G3.out.cell (k := 1) rfl; have x0 := X3.out.cell (k := 0) rfl; have x1 := X3.out.cell (k := 1) rfl; have x2 := X3.out.cell (k := 2) rfl; have x3 := X3.out.cell (k := 3) rfl; have x4 := X3.out.cell (k := 4) rfl; simp only [List.getElem_toArray, List.getElem_cons_zero, List.getElem_cons_succ] at y0 y1 x0 x1 x2 x3 x4; clear G2 XA B2) | (go_at_call 65; (with_reducible refine (ND.out _ _ _ _).mono ?_); rintro e W3 ⟨rfl, b2⟩; rw [h1]; have B4 := hiddenN (B3.out.trans (b2.mono B3.out.size)); have G4 := hiddenN (G3.out.below b2); have X4 := hiddenN (X3.out.below b2); clear b2 y0 y1 x0 x1 x2 x3 x4; have y0 := G4.out.cell (k := 0) rfl; have y1 := G4.out.cell (k := 1) rfl; have x0 := X4.out.cell (k := 0) rfl; have x1 := X4.out.cell (k := 1) rfl; have x2 := X4.out.cell (k := 2) rfl; have x3 := X4.out.cell (k := 3) rfl; have x4 := X4.out.cell (k := 4) rfl; simp only [List.getElem_toArray, List.getElem_cons_zero, List.getElem_cons_succ] at y0 y1 x0 x1 x2 x3 x4; clear G3 X3 B3))
          go_ret
          rw [HS.out (by rw [ER]; decide), ER]
          exact ⟨rfl, BA.out.trans (B4.out.mono BA.out.size)⟩
        | true =>
          cases h2 : ratB g with
          | false =>
            simp [h0, h1, h2] at ER
            go_wp2_with (first | (go_at_call 65; (with_reducible refine (ND.out _ _ _ _).mono ?_); rintro e W2 ⟨rfl, b2⟩; rw [h0]; have B3 := hiddenN (B2.out.trans (b2.mono B2.out.size)); have G3 := hiddenN (G2.out.below b2); have X3 := hiddenN (XA.out.below b2); clear b2 y0 y1 x0 x1 x2 x3 x4; have y0 := G3.out.cell (k := 0) rfl; have y1 := G3.out.cell (k := 1) rfl; have x0 := X3.out.cell (k := 0) rfl; have x1 := X3.out.cell (k := 1) rfl; have x2 := X3.out.cell (k := 2) rfl; have x3 := X3.out.cell (k := 3) rfl; have x4 := X3.out.cell (k := 4) rfl; simp only [List.getElem_toArray, List.getElem_cons_zero, List.getElem_cons_succ] at y0 y1 x0 x1 x2 x3 x4; clear G2 XA B2) | (go_at_call 65; (with_reducible refine (ND.out _ _ _ _).mono ?_); rintro e W3 ⟨rfl, b2⟩; rw [h1]; have B4 := hiddenN (B3.out.trans (b2.mono B3.out.size)); have G4 := hiddenN (G3.out.below b2); have X4 := hiddenN (X3.out.below b2); clear b2 y0 y1 x0 x1 x2 x3 x4; have y0 := G4.out.cell (k := 0) rfl; have y1 := G4.out.cell (k := 1) rfl; have x0 := X4.out.cell (k := 0) rfl; have x1 := X4.out.cell (k := 1) rfl; have x2 := X4.out.cell (k := 2) rfl; have x3 := X4.out.cell (k := 3) rfl; have x4 := X4.out.cell (k := 4) rfl; simp only [List.getElem_toArray, List.getElem_cons_zero, List.getElem_cons_succ] at y0 y1 x0 x1 x2 x3 x4; clear G3 X3 B3) | (go_at_call 66; (with_reducible refine (RT.out _ _).mono ?_); rintro e u ⟨rfl, hu⟩; rw [hu, h2]; clear hu u))
            go_ret
            rw [HS.out (by rw [ER]; decide), ER]
            exact ⟨rfl, BA.out.trans (B4.out.mono BA.out.size)⟩
          | true =>
            cases h3 : ratB kk with
            | false =>
              simp [h0, h1, h2, h3] at ER
              go_wp2_with (first | (go_at_call 65; (with_reducible refine (ND.out _ _ _ _).mono ?_); rintro e W2 ⟨rfl, b2⟩; rw [h0]; have B3 := hiddenN (B2.out.trans (b2.mono B2.out.size)); have G3 := hiddenN (G2.out.below b2); have X3 := hiddenN (XA.out.below b2); clear b2 y0 y1 x0 x1 x2 x3 x4; have y0 := G3.out.cell (k := 0) rfl; have y1 := G3.out.cell (k := 1) rfl; have x0 := X3.out.cell (k := 0) rfl; have x1 := X3.out.cell (k := 1) rfl; have x2 := X3.out.cell (k := 2) rfl; have x3 := X3.out.cell (k := 3) rfl; have x4 := X3.out.cell (k := 4) rfl; simp only [List.getElem_toArray, List.getElem_cons_zero, List.getElem_cons_succ] at y0 y1 x0 x1 x2 x3 x4; clear G2 XA B2) | (go_at_call 65; (with_reducible refine (ND.out _ _ _ _).mono ?_); rintro e W3 ⟨rfl, b2⟩; rw [h1]; have B4 := hiddenN (B3.out.trans (b2.mono B3.out.size)); have G4 := hiddenN (G3.out.below b2); have X4 := hiddenN (X3.out.below b2); clear b2 y0 y1 x0 x1 x2 x3 x4; have y0 := G4.out.cell (k := 0) rfl; have y1 := G4.out.cell (k := 1) rfl; have x0 := X4.out.cell (k := 0) rfl; have x1 := X4.out.cell (k := 1) rfl; have x2 := X4.out.cell (k := 2) rfl; have x3 := X4.out.cell (k := 3) rfl; have x4 := X4.out.cell (k := 4) rfl; simp only [List.getElem_toArray, List.getElem_cons_zero, List.getElem_cons_succ] at y0 y1 x0 x1 x2 x3 x4; clear G3 X3 B3) | (go_at_call 66; (with_reducible refine (RT.out _ _).mono ?_); rintro e u ⟨rfl, hu⟩; rw [hu, h2]; clear hu u) | (go_at_call 66; (with_reducible refine (RT.out _ _).mono ?_); rintro e u ⟨rfl, hu⟩; rw [hu, h3]; clear hu u))
              go_ret
              rw [HS.out (by rw [ER]; decide), ER]
              exact ⟨rfl, BA.out.trans (B4.out.mono BA.out.size)⟩
            | true =>
              by_cases h4 : s < 0
              · simp [h0, h1, h2, h3, h4] at ER
                go_wp2_with (first | (go_at_call 65; (with_reducible refine (ND.out _ _ _ _).mono ?_); rintro e W2 ⟨rfl, b2⟩; rw [h0]; have B3 := hiddenN (B2.out.trans (b2.mono B2.out.size)); have G3 := hiddenN (G2.out.below b2); have X3 := hiddenN (XA.out.below b2); clear b2 y0 y1 x0 x1 x2 x3 x4; have y0 := G3.out.cell (k := 0) rfl; have y1 := G3.out.cell (k := 1) rfl; have x0 := X3.out.cell (k := 0) rfl; have x1 := X3.out.cell (k := 1) rfl; have x2 := X3.out.cell (k := 2) rfl; have x3 := X3.out.cell (k := 3) rfl; have x4 := X3.out.cell (k := 4) rfl; simp only [List.getElem_toArray, List.getElem_cons_zero, List.getElem_cons_succ] at y0 y1 x0 x1 x2 x3 x4; clear G2 XA B2) | (go_at_call 65; (with_reducible refine (ND.out _ _ _ _).mono ?_); rintro e W3 ⟨rfl, b2⟩; rw [h1]; have B4 := hiddenN (B3.out.trans (b2.mono B3.out.size)); have G4 := hiddenN (G3.out.below b2); have X4 := hiddenN (X3.out.below b2); clear b2 y0 y1 x0 x1 x2 x3 x4; have y0 := G4.out.cell (k := 0) rfl; have y1 := G4.out.cell (k := 1) rfl; have x0 := X4.out.cell (k := 0) rfl; have x1 := X4.out.cell (k := 1) rfl; have x2 := X4.out.cell (k := 2) rfl; have x3 := X4.out.cell (k := 3) rfl; have x4 := X4.out.cell (k := 4) rfl; simp only [List.getElem_toArray, List.getElem_cons_zero, List.getElem_cons_succ] at y0 y1 x0 x1 x2 x3 x4; clear G3 X3 B3) | (go_at_call 66; (with_reducible refine (RT.out _ _).mono ?_); rintro e u ⟨rfl, hu⟩; rw [hu, h2]; clear hu u) | (go_at_call 66; (with_reducible refine (RT.out _ _).mono ?_); rintro e u ⟨rfl, hu⟩; rw [hu, h3]; clear hu u))
                go_ret
                rw [HS.out (by rw [ER]; decide), ER]
                exact ⟨rfl, BA.out.trans (B4.out.mono BA.out.size)⟩
              · by_cases h5 : 256 < s
                · simp [h0, h1, h2, h3, h4, h5] at ER
                  go_wp2_with (first | (go_at_call 65; (with_reducible refine (ND.out _ _ _ _).mono ?_); rintro e W2 ⟨rfl, b2⟩; rw [h0]; have B3 := hiddenN (B2.out.trans (b2.mono B2.out.size)); have G3 := hiddenN (G2.out.below b2); have X3 := hiddenN (XA.out.below b2); clear b2 y0 y1 x0 x1 x2 x3 x4; have y0 := G3.out.cell (k := 0) rfl; have y1 := G3.out.cell (k := 1) rfl; have x0 := X3.out.cell (k := 0) rfl; have x1 := X3.out.cell (k := 1) rfl; have x2 := X3.out.cell (k := 2) rfl; have x3 := X3.out.cell (k := 3) rfl; have x4 := X3.out.cell (k := 4) rfl; simp only [List.getElem_toArray, List.getElem_cons_zero, List.getElem_cons_succ] at y0 y1 x0 x1 x2 x3 x4; clear G2 XA B2) | (go_at_call 65; (with_reducible refine (ND.out _ _ _ _).mono ?_); rintro e W3 ⟨rfl, b2⟩; rw [h1]; have B4 := hiddenN (B3.out.trans (b2.mono B3.out.size)); have G4 := hiddenN (G3.out.below b2); have X4 := hiddenN (X3.out.below b2); clear b2 y0 y1 x0 x1 x2 x3 x4; have y0 := G4.out.cell (k := 0) rfl; have y1 := G4.out.cell (k := 1) rfl; have x0 := X4.out.cell (k := 0) rfl; have x1 := X4.out.cell (k := 1) rfl; have x2 := X4.out.cell (k := 2) rfl; have x3 := X4.out.cell (k := 3) rfl; have x4 := X4.out.cell (k := 4) rfl; simp only [List.getElem_toArray, List.getElem_cons_zero, List.getElem_cons_succ] at y0 y1 x0 x1 x2 x3 x4; clear G3 X3 B3) | (go_at_call 66; (with_reducible refine (RT.out _ _).mono ?_); rintro e u ⟨rfl, hu⟩; rw [hu, h2]; clear hu u) | (go_at_call 66; (with_reducible refine (RT.out _ _).mono ?_); rintro e u ⟨rfl, hu⟩; rw [hu, h3]; clear hu u))
                  go_ret
                  rw [HS.out (by rw [ER]; decide), ER]
                  exact ⟨rfl, BA.out.trans (B4.out.mono BA.out.size)⟩
                · simp [h0, h1, h2, h3, h4, h5] at ER
                  go_wp2_with (first | (go_at_call 65; (with_reducible refine (ND.out _ _ _ _).mono ?_); rintro e W2 ⟨rfl, b2⟩; rw [h0]; have B3 := hiddenN (B2.out.trans (b2.mono B2.out.size)); have G3 := hiddenN (G2.out.below b2); have X3 := hiddenN (XA.out.below b2); clear b2 y0 y1 x0 x1 x2 x3 x4; have y0 := G3.out.cell (k := 0) rfl; have y1 := G3.out.cell (k := 1) rfl; have x0 := X3.out.cell (k := 0) rfl; have x1 := X3.out.cell (k := 1) rfl; have x2 := X3.out.cell (k := 2) rfl; have x3 := X3.out.cell (k := 3) rfl; have x4 := X3.out.cell (k := 4) rfl; simp only [List.getElem_toArray, List.getElem_cons_zero, List.getElem_cons_succ] at y0 y1 x0 x1 x2 x3 x4; clear G2 XA B2) | (go_at_call 65; (with_reducible refine (ND.out _ _ _ _).mono ?_); rintro e W3 ⟨rfl, b2⟩; rw [h1]; have B4 := hiddenN (B3.out.trans (b2.mono B3.out.size)); have G4 := hiddenN (G3.out.below b2); have X4 := hiddenN (X3.out.below b2); clear b2 y0 y1 x0 x1 x2 x3 x4; have y0 := G4.out.cell (k := 0) rfl; have y1 := G4.out.cell (k := 1) rfl; have x0 := X4.out.cell (k := 0) rfl; have x1 := X4.out.cell (k := 1) rfl; have x2 := X4.out.cell (k := 2) rfl; have x3 := X4.out.cell (k := 3) rfl; have x4 := X4.out.cell (k := 4) rfl; simp only [List.getElem_toArray, List.getElem_cons_zero, List.getElem_cons_succ] at y0 y1 x0 x1 x2 x3 x4; clear G3 X3 B3) | (go_at_call 66; (with_reducible refine (RT.out _ _).mono ?_); rintro e u ⟨rfl, hu⟩; rw [hu, h2]; clear hu u) | (go_at_call 66; (with_reducible refine (RT.out _ _).mono ?_); rintro e u ⟨rfl, hu⟩; rw [hu, h3]; clear hu u))
                  go_roundg (N - (k + 1))
                  case measure => omega
                  case rel => exact ⟨k + 1, by omega, rfl, by go_num, B4.out, HZ.out ER⟩
    · have ek : k = N := by omega
      subst ek
      have hki : ¬ (k : Int) < (k : Int) := by omega
      have hz := hiddenN (arcs_none (m := m) (L := L) (fun i hi => HE.out i (by omega)))
      go_wp2
      go_ret
      rw [hz.out]
      exact ⟨rfl, BA.out.trans (HB.out.mono BA.out.size)⟩
theorem wpList_appA {w : World} {ops : Array Oper} {rest : List Oper} {o : Oper} {a : Act} {Q : Exit → Act → World → Prop} (hgd : o.guard = none) (s x : Operand) (ho : o.op = .call { callee := .builtin .append, args := #[s, x], argTypes := #[22, 22] })
    (hs : a.eval s = .slice none 0 0) (ad : Option Addr) (c : Nat) (L : List NA) (hx : a.eval x = .slice ad L.length c) (hna : ad = none → L.length = 0 ∧ c = 0) (hat : AtN w ad L) (hb : L.length * 40 ≤ 140737488355328)
    (h : ∀ d c' w', w'.ownsRow w.heap.size 53 5 (.slice d L.length c') L.length (flatN L) → (d = none → L.length = 0 ∧ c' = 0) → Below w.heap.size w w' → wpList Tryz.prog ops Q rest (a.put o.dst (.slice d L.length c')) w') : wpList Tryz.prog ops Q (o :: rest) a w := by
  obtain ⟨i0, hi, hz0, hz1, hz2⟩ := info_parts Tryz.infoArc
  have ON := World.ownsRow_nil w w.heap.size 53 5
  cases ad with
  | none =>
    obtain ⟨h1, rfl⟩ := hna rfl
    have e : L = [] := List.eq_nil_of_length_eq_zero h1
    subst e
    refine wpList_append_own_none hgd s x 22 ho w.heap.size 53 i0 5 Tryz.underlying22 hi _ 0 [] hs ON hx ?_
    exact h none 0 w ON (fun _ => ⟨rfl, rfl⟩) (Below.refl _ _)
  | some ad =>
    refine wpList_append_own _ hgd s x 22 ho w.heap.size 53 i0 _ 5 40 Tryz.underlying22 hi hz0 hz1 hz2 rfl (by decide) _ 0 [] hs ON ad L.length c (flatN L) hx (by rw [flatN_len]) (AtN.flat hat) (flatN_one L) (by unfold maxLen; omega) (by omega) (Nat.le_refl _) ?_
    intro v' w1 hown hgrow _
    have hown' : w1.ownsRow w.heap.size 53 5 v' L.length (flatN L) := by simpa using hown
    obtain ⟨a', cap', rfl, -, -⟩ := ownsN_at hown'
    refine h a' cap' w1 hown' (fun e => ?_) ((Below.refl _ _).grown hgrow (Nat.le_refl _) (fun k hk => by cases hk))
    subst e
    rcases hown'.2 with ⟨e1, e2⟩ | ⟨g, cap, cur, e1, -⟩
    · simp at e1; exact ⟨e2, e1.2⟩
    · cases e1
/-- The document's state of a net, as it lies. -/
structure DocS (B : Nat) (U : World) (n : NN) (a : Option Addr) (g N : Nat) (F : List Int) : Prop where
  arcs : AtN U a n.arcs
  fir : CapR B U (some ⟨g, 0, none⟩) N F
  lF : F.length = N
  nodes : n.nodes = (N : Int)
  sound : SoundN n
  far : ∀ x, a = some x → n.arcs ≠ [] → x.block ≠ g
  inr : InR F
theorem DocS.below {B : Nat} {U U' : World} {n : NN} {a : Option Addr} {g N : Nat} {F : List Int} (h : DocS B U n a g N F) (hb : Below U.heap.size U U') : DocS B U' n a g N F := ⟨h.arcs.below hb, h.fir.later hb, h.lF, h.nodes, h.sound, h.far, h.inr⟩
theorem DocS.cell {B : Nat} {U : World} {n : NN} {a : Option Addr} {g N : Nat} {F : List Int} (h : DocS B U n a g N F) {k : Nat} (hk : k < N) : U.cell? ⟨g, k, none⟩ = some (.int .i64 (nth F k)) := by
  rcases h.fir.at with e | ⟨tb, tof, et, cF⟩
  · have := h.lF; rw [e] at this; simp at this; omega
  · obtain ⟨rfl, rfl⟩ : g = tb ∧ 0 = tof := by simp at et; exact ⟨et.1, et.2⟩
    have := cF k (by rw [h.lF]; exact hk)
    rw [Nat.zero_add] at this
    exact this
set_option maxRecDepth 100000 in
set_option maxHeartbeats 4000000 in
theorem has10_any {B : Nat} (w : World) (n : NN) (a : Option Addr) (c g N : Nat) (F : List Int) (h : DocS B w n a g N F) (i : Nat) (hi : i < n.arcs.length) : Calls Tryz.prog 67 #[.agg #[.int .i64 n.nodes, .slice a n.arcs.length c, .slice (some ⟨g, 0, none⟩) N N], .int .i64 (i : Int)] w fun e w' => e = .returned (.int .i64 (hasN n F i)) ∧ Below w.heap.size w w' := by
  have ba := (Below.refl w.heap.size w).alloc (Nat.le_refl _) (.cells #[.int .i64 n.nodes, .slice a n.arcs.length c, .slice (some ⟨g, 0, none⟩) N N] 87)
  have X := hiddenN (blkA_new 87 w #[.int .i64 n.nodes, .slice a n.arcs.length c, .slice (some ⟨g, 0, none⟩) N N])
  have H := hiddenN (h.below ba)
  have B0 := hiddenN ba
  have hs := h.sound.arcs i hi
  have hN := h.nodes
  rcases H.out.arcs with e | ⟨ab, ao, ea, hca⟩
  · rw [e] at hi; simp at hi
  obtain ⟨a0, a1, a2, a3, a4⟩ := hca i hi
  obtain ⟨fn, efn⟩ : ∃ k : Nat, (nthNa n.arcs i).f = (k : Int) := ⟨(nthNa n.arcs i).f.toNat, by have := hs.f; omega⟩
  obtain ⟨tn, etn⟩ : ∃ k : Nat, (nthNa n.arcs i).t = (k : Int) := ⟨(nthNa n.arcs i).t.toNat, by have := hs.t; omega⟩
  have hfn : fn < N := by have := hs.f; omega
  have htn : tn < N := by have := hs.t; omega
  unfold hasN
  rw [efn] at a0 ⊢
  rw [etn] at a1 ⊢
  rw [Int.toNat_natCast, Int.toNat_natCast]
  have CF := hiddenN (fun (U : World) (hb : Below (w.alloc (.cells #[.int .i64 n.nodes, .slice a n.arcs.length c, .slice (some ⟨g, 0, none⟩) N N] 87)).heap.size (w.alloc (.cells #[.int .i64 n.nodes, .slice a n.arcs.length c, .slice (some ⟨g, 0, none⟩) N N] 87)) U) => (H.out.below hb).cell hfn)
  have CT := hiddenN (fun (U : World) (hb : Below (w.alloc (.cells #[.int .i64 n.nodes, .slice a n.arcs.length c, .slice (some ⟨g, 0, none⟩) N N] 87)).heap.size (w.alloc (.cells #[.int .i64 n.nodes, .slice a n.arcs.length c, .slice (some ⟨g, 0, none⟩) N N] 87)) U) => (H.out.below hb).cell htn)
  generalize (nthNa n.arcs i).g = gg at *
  generalize (nthNa n.arcs i).k = kk at *
  generalize (nthNa n.arcs i).s = ss at *
  generalize nth F fn = xf at *
  generalize nth F tn = xt at *
  have x0 := X.out.cell (k := 1) rfl
  simp only [List.getElem_toArray, List.getElem_cons_zero, List.getElem_cons_succ] at x0
  have hii : (i : Int) < (n.arcs.length : Int) := by omega
  have hmul := wrap_nest ss (gg * xf) (kk * xt)
  have w1 := wrapN (gg * xf)
  have w2 := wrapN (ss + wrap64 (gg * xf))
  have w3 := wrapN (kk * xt)
  have w4 := wrapN (wrap64 (ss + wrap64 (gg * xf)) - wrap64 (kk * xt))
  rw [hmul] at w4
  subst ea
  clear hca hs efn etn h ba H hN hmul
  go_enter Tryz.func67, Tryz.ntmps67
  go_upto_region 1 with fail
  generalize w.alloc (.cells #[.int .i64 n.nodes, .slice (some ⟨ab, ao, none⟩) n.arcs.length c, .slice (some ⟨g, 0, none⟩) N N] 87) = W0 at *
  go_upto_region 2 with fail
  have bc := (Below.refl W0.heap.size W0).alloc (Nat.le_refl _) (.cells #[.int .i64 (fn : Int), .int .i64 (tn : Int), .int .i64 gg, .int .i64 kk, .int .i64 ss] 53)
  have XA := blkA_new 53 W0 #[.int .i64 (fn : Int), .int .i64 (tn : Int), .int .i64 gg, .int .i64 kk, .int .i64 ss]
  have cf := CF.out _ bc
  have ct := CT.out _ bc
  have x2 := (X.out.below bc).cell (k := 2) rfl
  have B1 := hiddenN (B0.out.trans (bc.mono B0.out.size))
  obtain ⟨xb, hxb⟩ : ∃ q, W0.heap.size = q := ⟨_, rfl⟩
  rw [hxb] at XA ⊢
  generalize W0.alloc (.cells #[.int .i64 (fn : Int), .int .i64 (tn : Int), .int .i64 gg, .int .i64 kk, .int .i64 ss] 53) = V1 at *
  have y0 := XA.cell (k := 0) rfl
  have y1 := XA.cell (k := 1) rfl
  have y2 := XA.cell (k := 2) rfl
  have y3 := XA.cell (k := 3) rfl
  have y4 := XA.cell (k := 4) rfl
  simp only [List.getElem_toArray, List.getElem_cons_zero, List.getElem_cons_succ] at x2 y0 y1 y2 y3 y4
  have hfI : (fn : Int) < (N : Int) := by omega
  have htI : (tn : Int) < (N : Int) := by omega
  clear bc XA CF CT a0 a1 a2 a3 a4 x0 hxb X B0
  go_quiet (fail)
  go_wp2
  go_ret
  exact ⟨rfl, drewB B1.out _⟩
set_option maxRecDepth 100000 in
set_option maxHeartbeats 8000000 in
theorem rshort10_any {B : Nat} (w : World) (n : NN) (a : Option Addr) (c g N : Nat) (T F : List Int) (h : DocS B w n a g N F) (hI : InvN n T F) (v : Int) : Calls Tryz.prog 68 #[.agg #[.int .i64 n.nodes, .slice a n.arcs.length c, .slice (some ⟨g, 0, none⟩) N N], .int .i64 v] w fun e w' => e = .returned (.int .i64 (shortN n T v)) ∧ Below w.heap.size w w' := by
  have ba := (Below.refl w.heap.size w).alloc (Nat.le_refl _) (.cells #[.int .i64 n.nodes, .slice a n.arcs.length c, .slice (some ⟨g, 0, none⟩) N N] 87)
  have X := hiddenN (blkA_new 87 w #[.int .i64 n.nodes, .slice a n.arcs.length c, .slice (some ⟨g, 0, none⟩) N N])
  have H := hiddenN (h.below ba)
  have B0 := hiddenN ba
  have hmost := h.sound.most
  have SF := hiddenN (fun i hi ht hl hb => short_first (n := n) (T := T) (v := v) (i := i) h.sound hi ht hl hb)
  have HE := hiddenN hI.eq
  clear ba h hI
  go_enter Tryz.func68, Tryz.ntmps68
  go_upto_region 1 with fail
  generalize w.alloc (.cells #[.int .i64 n.nodes, .slice a n.arcs.length c, .slice (some ⟨g, 0, none⟩) N N] 87) = W0 at *
  go_wp2
  go_loopg [5] n.arcs.length (fun gk v5 wr => ∃ i : Nat, i ≤ n.arcs.length ∧ gk = n.arcs.length - i ∧ v5 = .int .i64 (i : Int) ∧ Below W0.heap.size W0 wr ∧ ∀ j, j < i → (nthNa n.arcs j).t = v → ¬ nth T j < (nthNa n.arcs j).k)
  case atStart => exact ⟨0, Nat.zero_le _, rfl, rfl, Below.refl _ _, fun j hj => by omega⟩
  case round =>
    obtain ⟨i, hi, rfl, rfl, hb7, hno⟩ := hrel
    have B7 := hiddenN hb7
    have HNO := hiddenN hno
    clear hb7 hno
    have z1 := (X.out.below B7.out).cell (k := 1) rfl
    simp only [List.getElem_toArray, List.getElem_cons_zero, List.getElem_cons_succ] at z1
    by_cases hil : i < n.arcs.length
    · have hii : (i : Int) < (n.arcs.length : Int) := by omega
      have z0 := (X.out.below B7.out).cell (k := 0) rfl
      have z2 := (X.out.below B7.out).cell (k := 2) rfl
      simp only [List.getElem_toArray, List.getElem_cons_zero, List.getElem_cons_succ] at z0 z2
      have HD := hiddenN (H.out.below B7.out)
      rcases HD.out.arcs with e | ⟨ab, ao, ea, hca⟩
      · rw [e] at hil; simp at hil
      obtain ⟨-, a1, -, a3, -⟩ := hca i hil
      have hei := HE.out i hil
      have HX := hiddenN (fun (U : World) (hb : Below wr.heap.size wr U) => has10_any U n a c g N F (HD.out.below hb) i hil)
      have HS := hiddenN (SF.out i hil)
      have HZ : Hid (¬ ((nthNa n.arcs i).t = v ∧ nth T i < (nthNa n.arcs i).k) → ∀ j, j < i + 1 → (nthNa n.arcs j).t = v → ¬ nth T j < (nthNa n.arcs j).k) := fun h0 j hj hjt hjl => by
        by_cases e : j = i
        · subst e; exact h0 ⟨hjt, hjl⟩
        · exact HNO.out j (by omega) hjt hjl
      rw [← hei] at HX
      subst ea
      generalize (nthNa n.arcs i).t = tt at *
      generalize (nthNa n.arcs i).k = kk at *
      generalize nth T i = hx at *
      have HH : Hid (∀ U, Below wr.heap.size wr U → Calls Tryz.prog 67 #[.agg #[.int .i64 n.nodes, .slice (some ⟨ab, ao, none⟩) n.arcs.length c, .slice (some ⟨g, 0, none⟩) N N], .int .i64 (i : Int)] U fun e w' => e = .returned (.int .i64 hx) ∧ Below U.heap.size U w') := fun U hb => HX.out U hb
      clear hca HX hei
      by_cases htv : tt = v
      · have hbe : (tt == v) = true := by simpa using htv
        obtain ⟨bl, hbl⟩ : ∃ b, decide (hx < kk) = b := ⟨_, rfl⟩
        go_upto_region 4 with fail
        refine wp_region_gen [] (fun d i_ u z => match i_ with
            | 0 => z = .pointer (some ⟨w.heap.size, 0, none⟩)
            | 1 => z = .pointer (some ⟨w.heap.size, 1, none⟩)
            | 2 => z = .slice (some ⟨ab, ao, none⟩) n.arcs.length c
            | 3 => z = .int .i64 (i : Int)
            | 4 => z = .pointer (some ⟨ab, ao + i * 5, none⟩)
            | 5 => z = .pointer (some ⟨ab, ao + i * 5 + 1, none⟩)
            | 6 => z = .int .i64 tt
            | 7 => z = .int .i64 v
            | 8 => z = .bool true
            | 9 => z = .bool true
            | 10 => z = .agg #[.int .i64 n.nodes, .slice (some ⟨ab, ao, none⟩) n.arcs.length c, .slice (some ⟨g, 0, none⟩) N N]
            | 11 => z = .int .i64 (i : Int)
            | 12 => z = .int .i64 hx
            | 13 => z = .pointer (some ⟨w.heap.size, 0, none⟩)
            | 14 => z = .pointer (some ⟨w.heap.size, 1, none⟩)
            | 15 => z = .slice (some ⟨ab, ao, none⟩) n.arcs.length c
            | 16 => z = .int .i64 (i : Int)
            | 17 => z = .pointer (some ⟨ab, ao + i * 5, none⟩)
            | 18 => z = .pointer (some ⟨ab, ao + i * 5 + 3, none⟩)
            | 19 => z = .int .i64 kk
            | 20 => z = .bool bl
            | 21 => z = .bool bl
            | _ => True) (fun _ u => Below wr.heap.size wr u) (by kernel_rfl) (by kernel_rfl) (by kernel_rfl) ?_ ?_ ?_ ?_ ?_ ?_ (by kernel_rfl)
        · intro d i_ w v w' h hb
          match i_, h with
          | 0, h => exact h
          | 1, h => exact h
          | 2, h => exact h
          | 3, h => exact h
          | 4, h => exact h
          | 5, h => exact h
          | 6, h => exact h
          | 7, h => exact h
          | 8, h => exact h
          | 9, h => exact h
          | 10, h => exact h
          | 11, h => exact h
          | 12, h => exact h
          | 13, h => exact h
          | 14, h => exact h
          | 15, h => exact h
          | 16, h => exact h
          | 17, h => exact h
          | 18, h => exact h
          | 19, h => exact h
          | 20, h => exact h
          | 21, h => exact h
          | _ + 22, _ => trivial
        · intro d u u' h hb
          exact h.trans (hb.mono h.size)
        · exact Below.refl _ _
        · intro d i_ o ρ w' hm ho hf hg hC hcs hfs hfr hdep
          match i_, hm, ho, hf, hg, hfr, hdep with
          | 0, _, ho, hf, hg, hfr, hdep =>
            simp only [gTA, gCZ, gSI] at ho
            subst ho
            refine ⟨fun _ => ?_, fun hw => absurd (show true = false from hw) (by decide)⟩
            have ts : ρ (.tmp 2) = .pointer (some ⟨w.heap.size, 0, none⟩) := hfr 2 (by kernel_rfl)
            simp [go_sem, ts]
            exact ⟨Below.refl _ _, rfl⟩
          | 1, _, ho, hf, hg, hfr, hdep =>
            simp only [gTA, gCZ, gCS, gSI] at ho
            subst ho
            refine ⟨fun _ => ?_, fun hw => absurd (show true = false from hw) (by decide)⟩
            have d0 : ρ (.tmp 14) = .pointer (some ⟨w.heap.size, 0, none⟩) := hdep 0 14 (by kernel_rfl) (by kernel_rfl)
            simp [go_sem, d0]
            exact ⟨Below.refl _ _, rfl⟩
          | 2, _, ho, hf, hg, hfr, hdep =>
            simp only [gTA, gCZ, gCS, gSI] at ho
            subst ho
            refine ⟨fun _ => ?_, fun hw => absurd (show true = false from hw) (by decide)⟩
            have cc : w'.cell? ⟨w.heap.size, 1, none⟩ = some (.slice (some ⟨ab, ao, none⟩) n.arcs.length c) := cellN_later hC z1
            have d0 : ρ (.tmp 15) = .pointer (some ⟨w.heap.size, 1, none⟩) := hdep 1 15 (by kernel_rfl) (by kernel_rfl)
            simp [go_sem, d0, cc]
            exact ⟨Below.refl _ _, rfl⟩
          | 3, _, ho, hf, hg, hfr, hdep =>
            simp only [gTA, gCZ, gCS, gSI] at ho
            subst ho
            refine ⟨fun _ => ?_, fun hw => absurd (show true = false from hw) (by decide)⟩
            have ts : ρ (.tmp 5) = .int .i64 (i : Int) := hfr 5 (by kernel_rfl)
            simp [go_sem, ts]
            exact ⟨Below.refl _ _, rfl⟩
          | 4, _, ho, hf, hg, hfr, hdep =>
            simp only [gTA, gCZ, gCS, gSI] at ho
            subst ho
            refine ⟨fun _ => ?_, fun hw => absurd (show true = false from hw) (by decide)⟩
            have d0 : ρ (.tmp 16) = .slice (some ⟨ab, ao, none⟩) n.arcs.length c := hdep 2 16 (by kernel_rfl) (by kernel_rfl)
            have d1 : ρ (.tmp 17) = .int .i64 (i : Int) := hdep 3 17 (by kernel_rfl) (by kernel_rfl)
            simp [go_sem, d0, d1, hil]
            exact ⟨Below.refl _ _, rfl⟩
          | 5, _, ho, hf, hg, hfr, hdep =>
            simp only [gTA, gCZ, gCS, gSI] at ho
            subst ho
            refine ⟨fun _ => ?_, fun hw => absurd (show true = false from hw) (by decide)⟩
            have d0 : ρ (.tmp 18) = .pointer (some ⟨ab, ao + i * 5, none⟩) := hdep 4 18 (by kernel_rfl) (by kernel_rfl)
            simp [go_sem, d0]
            exact ⟨Below.refl _ _, rfl⟩
          | 6, _, ho, hf, hg, hfr, hdep =>
            simp only [gTA, gCZ, gCS, gSI] at ho
            subst ho
            refine ⟨fun _ => ?_, fun hw => absurd (show true = false from hw) (by decide)⟩
            have cc : w'.cell? ⟨ab, ao + i * 5 + 1, none⟩ = some (.int .i64 tt) := cellN_later hC a1
            have d0 : ρ (.tmp 19) = .pointer (some ⟨ab, ao + i * 5 + 1, none⟩) := hdep 5 19 (by kernel_rfl) (by kernel_rfl)
            simp [go_sem, d0, cc]
            exact ⟨Below.refl _ _, rfl⟩
          | 7, _, ho, hf, hg, hfr, hdep =>
            simp only [gTA, gCZ, gCS, gSI] at ho
            subst ho
            refine ⟨fun _ => ?_, fun hw => absurd (show true = false from hw) (by decide)⟩
            have ts : ρ (.tmp 1) = .int .i64 v := hfr 1 (by kernel_rfl)
            simp [go_sem, ts]
            exact ⟨Below.refl _ _, rfl⟩
          | 8, _, ho, hf, hg, hfr, hdep =>
            simp only [gTA, gCZ, gCS, gSI] at ho
            subst ho
            refine ⟨fun _ => ?_, fun hw => absurd (show true = false from hw) (by decide)⟩
            have d0 : ρ (.tmp 20) = .int .i64 tt := hdep 6 20 (by kernel_rfl) (by kernel_rfl)
            have d1 : ρ (.tmp 21) = .int .i64 v := hdep 7 21 (by kernel_rfl) (by kernel_rfl)
            simp [go_sem, d0, d1, hbe]
            exact ⟨Below.refl _ _, rfl⟩
          | 9, _, ho, hf, hg, hfr, hdep =>
            simp only [gTA, gCZ, gCS, gSI] at ho
            subst ho
            refine ⟨fun _ => ?_, fun hw => absurd (show true = false from hw) (by decide)⟩
            have d0 : ρ (.tmp 22) = .bool true := hdep 8 22 (by kernel_rfl) (by kernel_rfl)
            simp [go_sem, d0]
            exact ⟨Below.refl _ _, rfl⟩
          | 10, _, ho, hf, hg, hfr, hdep =>
            simp only [gTA, gCZ, gCS, gSI] at ho
            subst ho
            have gd : ρ (.tmp 23) = .bool true := hdep 9 23 (by kernel_rfl) (by kernel_rfl)
            refine ⟨fun _ => ?_, fun hw => absurd (show (match ρ (.tmp 23) with | .bool c => c == true | _ => false) = false from hw) (by rw [gd]; decide)⟩
            clear gd
            have ts : ρ (.tmp 2) = .pointer (some ⟨w.heap.size, 0, none⟩) := hfr 2 (by kernel_rfl)
            have k0 := cellN_later hC z0
            have k1 := cellN_later hC z1
            have k2 := cellN_later hC z2
            simp [go_sem, ts, k0, k1, k2]
            exact ⟨Below.refl _ _, rfl⟩
          | 11, _, ho, hf, hg, hfr, hdep =>
            simp only [gTA, gCZ, gCS, gSI] at ho
            subst ho
            have gd : ρ (.tmp 23) = .bool true := hdep 9 23 (by kernel_rfl) (by kernel_rfl)
            refine ⟨fun _ => ?_, fun hw => absurd (show (match ρ (.tmp 23) with | .bool c => c == true | _ => false) = false from hw) (by rw [gd]; decide)⟩
            clear gd
            have ts : ρ (.tmp 5) = .int .i64 (i : Int) := hfr 5 (by kernel_rfl)
            simp [go_sem, ts]
            exact ⟨Below.refl _ _, rfl⟩
          | 12, _, ho, hf, hg, hfr, hdep =>
            simp only [gTA, gCZ, gCS, gSI] at ho
            subst ho
            have gd : ρ (.tmp 23) = .bool true := hdep 9 23 (by kernel_rfl) (by kernel_rfl)
            refine ⟨fun _ => ?_, fun hw => absurd (show (match ρ (.tmp 23) with | .bool c => c == true | _ => false) = false from hw) (by rw [gd]; decide)⟩
            clear gd
            have d0 : ρ (.tmp 24) = .agg #[.int .i64 n.nodes, .slice (some ⟨ab, ao, none⟩) n.arcs.length c, .slice (some ⟨g, 0, none⟩) N N] := hdep 10 24 (by kernel_rfl) (by kernel_rfl)
            have d1 : ρ (.tmp 25) = .int .i64 (i : Int) := hdep 11 25 (by kernel_rfl) (by kernel_rfl)
            simp [go_sem, d0, d1, hfs]
            exact ⟨rfl, (HH.out w' hC).mono fun e w'' hh => ⟨_, hh.1, hh.2, rfl⟩⟩
          | 13, _, ho, hf, hg, hfr, hdep =>
            simp only [gTA, gCZ, gCS, gSI] at ho
            subst ho
            have gd : ρ (.tmp 23) = .bool true := hdep 9 23 (by kernel_rfl) (by kernel_rfl)
            refine ⟨fun _ => ?_, fun hw => absurd (show (match ρ (.tmp 23) with | .bool c => c == true | _ => false) = false from hw) (by rw [gd]; decide)⟩
            clear gd
            have ts : ρ (.tmp 2) = .pointer (some ⟨w.heap.size, 0, none⟩) := hfr 2 (by kernel_rfl)
            simp [go_sem, ts]
            exact ⟨Below.refl _ _, rfl⟩
          | 14, _, ho, hf, hg, hfr, hdep =>
            simp only [gTA, gCZ, gCS, gSI] at ho
            subst ho
            have gd : ρ (.tmp 23) = .bool true := hdep 9 23 (by kernel_rfl) (by kernel_rfl)
            refine ⟨fun _ => ?_, fun hw => absurd (show (match ρ (.tmp 23) with | .bool c => c == true | _ => false) = false from hw) (by rw [gd]; decide)⟩
            clear gd
            have d0 : ρ (.tmp 27) = .pointer (some ⟨w.heap.size, 0, none⟩) := hdep 13 27 (by kernel_rfl) (by kernel_rfl)
            simp [go_sem, d0]
            exact ⟨Below.refl _ _, rfl⟩
          | 15, _, ho, hf, hg, hfr, hdep =>
            simp only [gTA, gCZ, gCS, gSI] at ho
            subst ho
            have gd : ρ (.tmp 23) = .bool true := hdep 9 23 (by kernel_rfl) (by kernel_rfl)
            refine ⟨fun _ => ?_, fun hw => absurd (show (match ρ (.tmp 23) with | .bool c => c == true | _ => false) = false from hw) (by rw [gd]; decide)⟩
            clear gd
            have cc : w'.cell? ⟨w.heap.size, 1, none⟩ = some (.slice (some ⟨ab, ao, none⟩) n.arcs.length c) := cellN_later hC z1
            have d0 : ρ (.tmp 28) = .pointer (some ⟨w.heap.size, 1, none⟩) := hdep 14 28 (by kernel_rfl) (by kernel_rfl)
            simp [go_sem, d0, cc]
            exact ⟨Below.refl _ _, rfl⟩
          | 16, _, ho, hf, hg, hfr, hdep =>
            simp only [gTA, gCZ, gCS, gSI] at ho
            subst ho
            have gd : ρ (.tmp 23) = .bool true := hdep 9 23 (by kernel_rfl) (by kernel_rfl)
            refine ⟨fun _ => ?_, fun hw => absurd (show (match ρ (.tmp 23) with | .bool c => c == true | _ => false) = false from hw) (by rw [gd]; decide)⟩
            clear gd
            have ts : ρ (.tmp 5) = .int .i64 (i : Int) := hfr 5 (by kernel_rfl)
            simp [go_sem, ts]
            exact ⟨Below.refl _ _, rfl⟩
          | 17, _, ho, hf, hg, hfr, hdep =>
            simp only [gTA, gCZ, gCS, gSI] at ho
            subst ho
            have gd : ρ (.tmp 23) = .bool true := hdep 9 23 (by kernel_rfl) (by kernel_rfl)
            refine ⟨fun _ => ?_, fun hw => absurd (show (match ρ (.tmp 23) with | .bool c => c == true | _ => false) = false from hw) (by rw [gd]; decide)⟩
            clear gd
            have d0 : ρ (.tmp 29) = .slice (some ⟨ab, ao, none⟩) n.arcs.length c := hdep 15 29 (by kernel_rfl) (by kernel_rfl)
            have d1 : ρ (.tmp 30) = .int .i64 (i : Int) := hdep 16 30 (by kernel_rfl) (by kernel_rfl)
            simp [go_sem, d0, d1, hil]
            exact ⟨Below.refl _ _, rfl⟩
          | 18, _, ho, hf, hg, hfr, hdep =>
            simp only [gTA, gCZ, gCS, gSI] at ho
            subst ho
            have gd : ρ (.tmp 23) = .bool true := hdep 9 23 (by kernel_rfl) (by kernel_rfl)
            refine ⟨fun _ => ?_, fun hw => absurd (show (match ρ (.tmp 23) with | .bool c => c == true | _ => false) = false from hw) (by rw [gd]; decide)⟩
            clear gd
            have d0 : ρ (.tmp 31) = .pointer (some ⟨ab, ao + i * 5, none⟩) := hdep 17 31 (by kernel_rfl) (by kernel_rfl)
            simp [go_sem, d0]
            exact ⟨Below.refl _ _, rfl⟩
          | 19, _, ho, hf, hg, hfr, hdep =>
            simp only [gTA, gCZ, gCS, gSI] at ho
            subst ho
            have gd : ρ (.tmp 23) = .bool true := hdep 9 23 (by kernel_rfl) (by kernel_rfl)
            refine ⟨fun _ => ?_, fun hw => absurd (show (match ρ (.tmp 23) with | .bool c => c == true | _ => false) = false from hw) (by rw [gd]; decide)⟩
            clear gd
            have cc : w'.cell? ⟨ab, ao + i * 5 + 3, none⟩ = some (.int .i64 kk) := cellN_later hC a3
            have d0 : ρ (.tmp 32) = .pointer (some ⟨ab, ao + i * 5 + 3, none⟩) := hdep 18 32 (by kernel_rfl) (by kernel_rfl)
            simp [go_sem, d0, cc]
            exact ⟨Below.refl _ _, rfl⟩
          | 20, _, ho, hf, hg, hfr, hdep =>
            simp only [gTA, gCZ, gCS, gSI] at ho
            subst ho
            have gd : ρ (.tmp 23) = .bool true := hdep 9 23 (by kernel_rfl) (by kernel_rfl)
            refine ⟨fun _ => ?_, fun hw => absurd (show (match ρ (.tmp 23) with | .bool c => c == true | _ => false) = false from hw) (by rw [gd]; decide)⟩
            clear gd
            have d0 : ρ (.tmp 26) = .int .i64 hx := hdep 12 26 (by kernel_rfl) (by kernel_rfl)
            have d1 : ρ (.tmp 33) = .int .i64 kk := hdep 19 33 (by kernel_rfl) (by kernel_rfl)
            simp [go_sem, d0, d1, hbl]
            exact ⟨Below.refl _ _, rfl⟩
          | 21, _, ho, hf, hg, hfr, hdep =>
            simp only [gTA, gCZ, gCS, gSI] at ho
            subst ho
            refine ⟨fun _ => ?_, fun hw => absurd (show true = false from hw) (by decide)⟩
            have d0 : ρ (.tmp 23) = .bool true := hdep 9 23 (by kernel_rfl) (by kernel_rfl)
            have d1 : ρ (.tmp 34) = .bool bl := hdep 20 34 (by kernel_rfl) (by kernel_rfl)
            simp [go_sem, d0, d1]
            exact ⟨Below.refl _ _, rfl⟩
          | n + 22, _, ho, _, _, _, _ => simp at ho
        · intro d i_ o ρ w' hm ho h0 hf hg hC hcs hfs hfr hdep
          exact absurd hm (by simp)
        · intro V w9 hC9 hS
          have e21 : V 21 = .bool bl := hS 21 (by decide) (by intro h; cases h)
          simp only [puts, e21]
          simp only [Act.put, List.setIfInBounds_toArray, List.set_cons_zero, List.set_cons_succ]
          clear hS e21
          have B9 := hiddenN (B7.out.trans (hC9.mono B7.out.size))
          clear hC9
          cases bl with
          | true =>
            have hlt := of_decide_eq_true hbl
            go_wp2
            go_ret
            rw [HS.out htv hlt HNO.out]
            exact ⟨rfl, B0.out.trans (B9.out.mono B0.out.size)⟩
          | false =>
            have hlt := of_decide_eq_false hbl
            go_wp2
            go_roundg (n.arcs.length - (i + 1))
            case measure => omega
            case rel => exact ⟨i + 1, by omega, rfl, by go_num, B9.out, HZ.out (fun e => by have := e.2; omega)⟩
      · have hbe : (tt == v) = false := by simpa using htv
        go_upto_region 4 with fail
        refine wp_region_gen [] (fun d i_ u z => match i_ with
            | 0 => z = .pointer (some ⟨w.heap.size, 0, none⟩)
            | 1 => z = .pointer (some ⟨w.heap.size, 1, none⟩)
            | 2 => z = .slice (some ⟨ab, ao, none⟩) n.arcs.length c
            | 3 => z = .int .i64 (i : Int)
            | 4 => z = .pointer (some ⟨ab, ao + i * 5, none⟩)
            | 5 => z = .pointer (some ⟨ab, ao + i * 5 + 1, none⟩)
            | 6 => z = .int .i64 tt
            | 7 => z = .int .i64 v
            | 8 => z = .bool false
            | 9 => z = .bool false
            | 10 => z = undef
            | 11 => z = undef
            | 12 => z = undef
            | 13 => z = undef
            | 14 => z = undef
            | 15 => z = undef
            | 16 => z = undef
            | 17 => z = undef
            | 18 => z = undef
            | 19 => z = undef
            | 20 => z = undef
            | 21 => z = .bool false
            | _ => True) (fun _ u => Below wr.heap.size wr u) (by kernel_rfl) (by kernel_rfl) (by kernel_rfl) ?_ ?_ ?_ ?_ ?_ ?_ (by kernel_rfl)
        · intro d i_ w v w' h hb
          match i_, h with
          | 0, h => exact h
          | 1, h => exact h
          | 2, h => exact h
          | 3, h => exact h
          | 4, h => exact h
          | 5, h => exact h
          | 6, h => exact h
          | 7, h => exact h
          | 8, h => exact h
          | 9, h => exact h
          | 10, h => exact h
          | 11, h => exact h
          | 12, h => exact h
          | 13, h => exact h
          | 14, h => exact h
          | 15, h => exact h
          | 16, h => exact h
          | 17, h => exact h
          | 18, h => exact h
          | 19, h => exact h
          | 20, h => exact h
          | 21, h => exact h
          | _ + 22, _ => trivial
        · intro d u u' h hb
          exact h.trans (hb.mono h.size)
        · exact Below.refl _ _
        · intro d i_ o ρ w' hm ho hf hg hC hcs hfs hfr hdep
          match i_, hm, ho, hf, hg, hfr, hdep with
          | 0, _, ho, hf, hg, hfr, hdep =>
            simp only [gTA, gCZ, gSI] at ho
            subst ho
            refine ⟨fun _ => ?_, fun hw => absurd (show true = false from hw) (by decide)⟩
            have ts : ρ (.tmp 2) = .pointer (some ⟨w.heap.size, 0, none⟩) := hfr 2 (by kernel_rfl)
            simp [go_sem, ts]
            exact ⟨Below.refl _ _, rfl⟩
          | 1, _, ho, hf, hg, hfr, hdep =>
            simp only [gTA, gCZ, gCS, gSI] at ho
            subst ho
            refine ⟨fun _ => ?_, fun hw => absurd (show true = false from hw) (by decide)⟩
            have d0 : ρ (.tmp 14) = .pointer (some ⟨w.heap.size, 0, none⟩) := hdep 0 14 (by kernel_rfl) (by kernel_rfl)
            simp [go_sem, d0]
            exact ⟨Below.refl _ _, rfl⟩
          | 2, _, ho, hf, hg, hfr, hdep =>
            simp only [gTA, gCZ, gCS, gSI] at ho
            subst ho
            refine ⟨fun _ => ?_, fun hw => absurd (show true = false from hw) (by decide)⟩
            have cc : w'.cell? ⟨w.heap.size, 1, none⟩ = some (.slice (some ⟨ab, ao, none⟩) n.arcs.length c) := cellN_later hC z1
            have d0 : ρ (.tmp 15) = .pointer (some ⟨w.heap.size, 1, none⟩) := hdep 1 15 (by kernel_rfl) (by kernel_rfl)
            simp [go_sem, d0, cc]
            exact ⟨Below.refl _ _, rfl⟩
          | 3, _, ho, hf, hg, hfr, hdep =>
            simp only [gTA, gCZ, gCS, gSI] at ho
            subst ho
            refine ⟨fun _ => ?_, fun hw => absurd (show true = false from hw) (by decide)⟩
            have ts : ρ (.tmp 5) = .int .i64 (i : Int) := hfr 5 (by kernel_rfl)
            simp [go_sem, ts]
            exact ⟨Below.refl _ _, rfl⟩
          | 4, _, ho, hf, hg, hfr, hdep =>
            simp only [gTA, gCZ, gCS, gSI] at ho
            subst ho
            refine ⟨fun _ => ?_, fun hw => absurd (show true = false from hw) (by decide)⟩
            have d0 : ρ (.tmp 16) = .slice (some ⟨ab, ao, none⟩) n.arcs.length c := hdep 2 16 (by kernel_rfl) (by kernel_rfl)
            have d1 : ρ (.tmp 17) = .int .i64 (i : Int) := hdep 3 17 (by kernel_rfl) (by kernel_rfl)
            simp [go_sem, d0, d1, hil]
            exact ⟨Below.refl _ _, rfl⟩
          | 5, _, ho, hf, hg, hfr, hdep =>
            simp only [gTA, gCZ, gCS, gSI] at ho
            subst ho
            refine ⟨fun _ => ?_, fun hw => absurd (show true = false from hw) (by decide)⟩
            have d0 : ρ (.tmp 18) = .pointer (some ⟨ab, ao + i * 5, none⟩) := hdep 4 18 (by kernel_rfl) (by kernel_rfl)
            simp [go_sem, d0]
            exact ⟨Below.refl _ _, rfl⟩
          | 6, _, ho, hf, hg, hfr, hdep =>
            simp only [gTA, gCZ, gCS, gSI] at ho
            subst ho
            refine ⟨fun _ => ?_, fun hw => absurd (show true = false from hw) (by decide)⟩
            have cc : w'.cell? ⟨ab, ao + i * 5 + 1, none⟩ = some (.int .i64 tt) := cellN_later hC a1
            have d0 : ρ (.tmp 19) = .pointer (some ⟨ab, ao + i * 5 + 1, none⟩) := hdep 5 19 (by kernel_rfl) (by kernel_rfl)
            simp [go_sem, d0, cc]
            exact ⟨Below.refl _ _, rfl⟩
          | 7, _, ho, hf, hg, hfr, hdep =>
            simp only [gTA, gCZ, gCS, gSI] at ho
            subst ho
            refine ⟨fun _ => ?_, fun hw => absurd (show true = false from hw) (by decide)⟩
            have ts : ρ (.tmp 1) = .int .i64 v := hfr 1 (by kernel_rfl)
            simp [go_sem, ts]
            exact ⟨Below.refl _ _, rfl⟩
          | 8, _, ho, hf, hg, hfr, hdep =>
            simp only [gTA, gCZ, gCS, gSI] at ho
            subst ho
            refine ⟨fun _ => ?_, fun hw => absurd (show true = false from hw) (by decide)⟩
            have d0 : ρ (.tmp 20) = .int .i64 tt := hdep 6 20 (by kernel_rfl) (by kernel_rfl)
            have d1 : ρ (.tmp 21) = .int .i64 v := hdep 7 21 (by kernel_rfl) (by kernel_rfl)
            simp [go_sem, d0, d1, hbe]
            exact ⟨Below.refl _ _, rfl⟩
          | 9, _, ho, hf, hg, hfr, hdep =>
            simp only [gTA, gCZ, gCS, gSI] at ho
            subst ho
            refine ⟨fun _ => ?_, fun hw => absurd (show true = false from hw) (by decide)⟩
            have d0 : ρ (.tmp 22) = .bool false := hdep 8 22 (by kernel_rfl) (by kernel_rfl)
            simp [go_sem, d0]
            exact ⟨Below.refl _ _, rfl⟩
          | 10, _, ho, hf, hg, hfr, hdep =>
            simp only [gTA, gCZ, gCS, gSI] at ho
            subst ho
            have gd : ρ (.tmp 23) = .bool false := hdep 9 23 (by kernel_rfl) (by kernel_rfl)
            exact ⟨fun hw => absurd (show (match ρ (.tmp 23) with | .bool c => c == true | _ => false) = true from hw) (by rw [gd]; decide), fun _ => rfl⟩
          | 11, _, ho, hf, hg, hfr, hdep =>
            simp only [gTA, gCZ, gCS, gSI] at ho
            subst ho
            have gd : ρ (.tmp 23) = .bool false := hdep 9 23 (by kernel_rfl) (by kernel_rfl)
            exact ⟨fun hw => absurd (show (match ρ (.tmp 23) with | .bool c => c == true | _ => false) = true from hw) (by rw [gd]; decide), fun _ => rfl⟩
          | 12, _, ho, hf, hg, hfr, hdep =>
            simp only [gTA, gCZ, gCS, gSI] at ho
            subst ho
            have gd : ρ (.tmp 23) = .bool false := hdep 9 23 (by kernel_rfl) (by kernel_rfl)
            exact ⟨fun hw => absurd (show (match ρ (.tmp 23) with | .bool c => c == true | _ => false) = true from hw) (by rw [gd]; decide), fun _ => rfl⟩
          | 13, _, ho, hf, hg, hfr, hdep =>
            simp only [gTA, gCZ, gCS, gSI] at ho
            subst ho
            have gd : ρ (.tmp 23) = .bool false := hdep 9 23 (by kernel_rfl) (by kernel_rfl)
            exact ⟨fun hw => absurd (show (match ρ (.tmp 23) with | .bool c => c == true | _ => false) = true from hw) (by rw [gd]; decide), fun _ => rfl⟩
          | 14, _, ho, hf, hg, hfr, hdep =>
            simp only [gTA, gCZ, gCS, gSI] at ho
            subst ho
            have gd : ρ (.tmp 23) = .bool false := hdep 9 23 (by kernel_rfl) (by kernel_rfl)
            exact ⟨fun hw => absurd (show (match ρ (.tmp 23) with | .bool c => c == true | _ => false) = true from hw) (by rw [gd]; decide), fun _ => rfl⟩
          | 15, _, ho, hf, hg, hfr, hdep =>
            simp only [gTA, gCZ, gCS, gSI] at ho
            subst ho
            have gd : ρ (.tmp 23) = .bool false := hdep 9 23 (by kernel_rfl) (by kernel_rfl)
            exact ⟨fun hw => absurd (show (match ρ (.tmp 23) with | .bool c => c == true | _ => false) = true from hw) (by rw [gd]; decide), fun _ => rfl⟩
          | 16, _, ho, hf, hg, hfr, hdep =>
            simp only [gTA, gCZ, gCS, gSI] at ho
            subst ho
            have gd : ρ (.tmp 23) = .bool false := hdep 9 23 (by kernel_rfl) (by kernel_rfl)
            exact ⟨fun hw => absurd (show (match ρ (.tmp 23) with | .bool c => c == true | _ => false) = true from hw) (by rw [gd]; decide), fun _ => rfl⟩
          | 17, _, ho, hf, hg, hfr, hdep =>
            simp only [gTA, gCZ, gCS, gSI] at ho
            subst ho
            have gd : ρ (.tmp 23) = .bool false := hdep 9 23 (by kernel_rfl) (by kernel_rfl)
            exact ⟨fun hw => absurd (show (match ρ (.tmp 23) with | .bool c => c == true | _ => false) = true from hw) (by rw [gd]; decide), fun _ => rfl⟩
          | 18, _, ho, hf, hg, hfr, hdep =>
            simp only [gTA, gCZ, gCS, gSI] at ho
            subst ho
            have gd : ρ (.tmp 23) = .bool false := hdep 9 23 (by kernel_rfl) (by kernel_rfl)
            exact ⟨fun hw => absurd (show (match ρ (.tmp 23) with | .bool c => c == true | _ => false) = true from hw) (by rw [gd]; decide), fun _ => rfl⟩
          | 19, _, ho, hf, hg, hfr, hdep =>
            simp only [gTA, gCZ, gCS, gSI] at ho
            subst ho
            have gd : ρ (.tmp 23) = .bool false := hdep 9 23 (by kernel_rfl) (by kernel_rfl)
            exact ⟨fun hw => absurd (show (match ρ (.tmp 23) with | .bool c => c == true | _ => false) = true from hw) (by rw [gd]; decide), fun _ => rfl⟩
          | 20, _, ho, hf, hg, hfr, hdep =>
            simp only [gTA, gCZ, gCS, gSI] at ho
            subst ho
            have gd : ρ (.tmp 23) = .bool false := hdep 9 23 (by kernel_rfl) (by kernel_rfl)
            exact ⟨fun hw => absurd (show (match ρ (.tmp 23) with | .bool c => c == true | _ => false) = true from hw) (by rw [gd]; decide), fun _ => rfl⟩
          | 21, _, ho, hf, hg, hfr, hdep =>
            simp only [gTA, gCZ, gCS, gSI] at ho
            subst ho
            refine ⟨fun _ => ?_, fun hw => absurd (show true = false from hw) (by decide)⟩
            have d0 : ρ (.tmp 23) = .bool false := hdep 9 23 (by kernel_rfl) (by kernel_rfl)
            simp [go_sem, d0, hcs]
            exact ⟨Below.refl _ _, rfl⟩
          | n + 22, _, ho, _, _, _, _ => simp at ho
        · intro d i_ o ρ w' hm ho h0 hf hg hC hcs hfs hfr hdep
          exact absurd hm (by simp)
        · intro V w9 hC9 hS
          have e21 : V 21 = .bool false := hS 21 (by decide) (by intro h; cases h)
          simp only [puts, e21]
          simp only [Act.put, List.setIfInBounds_toArray, List.set_cons_zero, List.set_cons_succ]
          clear hS e21
          have B9 := hiddenN (B7.out.trans (hC9.mono B7.out.size))
          clear hC9
          go_wp2
          go_roundg (n.arcs.length - (i + 1))
          case measure => omega
          case rel => exact ⟨i + 1, by omega, rfl, by go_num, B9.out, HZ.out (fun e => htv e.1)⟩
    · have ei : i = n.arcs.length := by omega
      have hii : ¬ (i : Int) < (n.arcs.length : Int) := by omega
      have hz := hiddenN (short_never (n := n) (T := T) (v := v) (fun j hj => HNO.out j (by omega)))
      go_wp2
      go_ret
      rw [hz.out]
      exact ⟨rfl, B0.out.trans (B7.out.mono B0.out.size)⟩
end Go.Proofs.YtimioiaoefhabaaGreat
