/- Texts of one chain, laid one behind the other. -/
import Derived.Test.YtffikkkfnbffbaaPartPackMoves17
import Derived.Test.YtffikkkfnbffbaaPartPackMoves9
import Derived.Test.YtffikkkfnbffbaaPartPackMoves13
import Derived.Laws.AppendOwnNone
namespace Go.Proofs.Ytffikkkfnbffbaa
open Go.ChangeShapes Go.WideShapes Go.ChangeAt Go.RowKit
def nthLV (I : List (List Int)) (k : Nat) : List Int := I.getD k []
/-- Rows that a call gives. -/
structure OutTV (B : Nat) (w : World) (A : Nat → Option Addr) (C : Nat → Nat) (x : Option Addr) (O : List (List Int)) : Prop where
  rows : ∀ j, j < O.length → CapR B w (A j) (C j) (nthLV O j)
  apart : ∀ j k y z, j < O.length → k < O.length → j ≠ k → A j = some y → A k = some z → y.block ≠ z.block
  tab : O = [] ∨ ∃ g, x = some ⟨g, 0, none⟩ ∧ B ≤ g ∧ g < w.heap.size ∧ (∀ j, j < O.length → w.cell? ⟨g, j, none⟩ = some (.slice (A j) (nthLV O j).length (C j))) ∧ ∀ j y, j < O.length → A j = some y → y.block ≠ g
theorem OutTV.keep {B : Nat} {w w' : World} {A : Nat → Option Addr} {C : Nat → Nat} {x : Option Addr} {O : List (List Int)} (h : OutTV B w A C x O) (hk : ∀ k, B ≤ k → k < w.heap.size → w'.heap[k]? = w.heap[k]?) (hs : w.heap.size ≤ w'.heap.size) : OutTV B w' A C x O := by
  refine ⟨fun j hj => (h.rows j hj).keep fun y hy => hk _ ((h.rows j hj).lt y hy).1 ((h.rows j hj).lt y hy).2, h.apart, ?_⟩
  rcases h.tab with h0 | ⟨g, hx, h1, h2, h3, h4⟩
  · exact .inl h0
  · exact .inr ⟨g, hx, h1, by omega, fun j hj => by rw [World.cell?_of_block (w := w) (w' := w') (a := ⟨g, j, none⟩) (hk g h1 h2)]; exact h3 j hj, h4⟩
theorem OutTV.mono {B B' : Nat} {w : World} {A : Nat → Option Addr} {C : Nat → Nat} {x : Option Addr} {O : List (List Int)} (h : OutTV B w A C x O) (hB : B' ≤ B) : OutTV B' w A C x O := by
  refine ⟨fun j hj => (h.rows j hj).mono hB, h.apart, ?_⟩
  rcases h.tab with h0 | ⟨g, hx, h1, r⟩
  · exact .inl h0
  · exact .inr ⟨g, hx, by omega, r⟩
/-- The cells of a table of rows. -/
def tabCV (A : Nat → Option Addr) (C : Nat → Nat) (O : List (List Int)) : List Value := (List.range O.length).map fun j => .slice (A j) (nthLV O j).length (C j)
/-- A table of rows that grows. -/
structure TabGV (B : Nat) (wr : World) (v : Value) (A : Nat → Option Addr) (C : Nat → Nat) (O : List (List Int)) : Prop where
  row : wr.ownsRow B 25 1 v O.length (tabCV A C O)
  rows : ∀ j, j < O.length → CapR B wr (A j) (C j) (nthLV O j)
  dd : ∀ j k x y, j < O.length → k < O.length → j ≠ k → A j = some x → A k = some y → x.block ≠ y.block
  dt : ∀ j x k, j < O.length → A j = some x → v.ownBlock = some k → x.block ≠ k
theorem rowG_laterV {B e size n : Nat} {v : Value} {xs : List Value} {w w' : World} (h : w.ownsRow B e size v n xs) (hk : ∀ k, v.ownBlock = some k → w'.heap[k]? = w.heap[k]?) : w'.ownsRow B e size v n xs := by
  refine ⟨h.1, ?_⟩
  rcases h.2 with h2 | ⟨g, cap, cur, hv, hg, hh, r⟩
  · exact .inl h2
  · exact .inr ⟨g, cap, cur, hv, hg, by rw [hk g (by rw [hv]; rfl)]; exact hh, r⟩
theorem rowG_ltV {B e size n : Nat} {v : Value} {xs : List Value} {w : World} (h : w.ownsRow B e size v n xs) {k : Nat} (hk : v.ownBlock = some k) : B ≤ k ∧ k < w.heap.size := by
  rcases h.2 with ⟨h2, -⟩ | ⟨g, cap, cur, hv, hg, hh, -⟩
  · rw [h2] at hk; cases hk
  · rw [hv] at hk; cases hk
    exact ⟨hg, (Array.getElem?_eq_some_iff.1 hh).1⟩
theorem TabGV.below {B : Nat} {w w' : World} {v : Value} {A : Nat → Option Addr} {C : Nat → Nat} {O : List (List Int)} (h : TabGV B w v A C O) (hb : Below w.heap.size w w') : TabGV B w' v A C O :=
  ⟨rowG_laterV h.row fun k hk => hb.block k (rowG_ltV h.row hk).2, fun j hj => (h.rows j hj).later hb, h.dd, h.dt⟩
theorem nthL_leftV {O : List (List Int)} {L : List Int} {j : Nat} (h : j < O.length) : nthLV (O ++ [L]) j = nthLV O j := by
  unfold nthLV; rw [List.getD_eq_getElem?_getD, List.getD_eq_getElem?_getD, List.getElem?_append_left h]
theorem nthL_endV (O : List (List Int)) (L : List Int) : nthLV (O ++ [L]) O.length = L := by
  unfold nthLV; rw [List.getD_eq_getElem?_getD, List.getElem?_append_right (Nat.le_refl _), Nat.sub_self]; rfl
theorem tabC_appV (A : Nat → Option Addr) (C : Nat → Nat) (O : List (List Int)) (L : List Int) (d : Option Addr) (c : Nat) : tabCV (upd A O.length d) (upd C O.length c) (O ++ [L]) = tabCV A C O ++ [.slice d L.length c] := by
  unfold tabCV
  rw [List.length_append, List.length_singleton, List.range_succ, List.map_append]
  congr 1
  · refine List.map_congr_left fun j hj => ?_
    have hj' := List.mem_range.1 hj
    rw [nthL_leftV hj', upd_ne (by omega), upd_ne (by omega)]
  · rw [List.map_singleton, nthL_endV, upd_eq, upd_eq]
theorem TabGV.app {B : Nat} {w w2 w4 : World} {v v' : Value} {A : Nat → Option Addr} {C : Nat → Nat} {O : List (List Int)} {d : Option Addr} {c : Nat} {L : List Int} (h : TabGV B w v A C O) (hB : B ≤ w.heap.size) (hb : Below w.heap.size w w2) (hd : CapR w.heap.size w2 d c L)
    (ho : w4.ownsRow B 25 1 v' (O.length + 1) (tabCV A C O ++ [.slice d L.length c]))
    (ht : (∃ g cap, v = .slice (some ⟨g, 0, none⟩) O.length cap ∧ v' = .slice (some ⟨g, 0, none⟩) (O.length + 1) cap ∧ w2.grownBy w4 (some g)) ∨ (∃ cap, v' = .slice (some ⟨w2.heap.size, 0, none⟩) (O.length + 1) cap ∧ w2.grownBy w4 none)) : TabGV B w4 v' (upd A O.length d) (upd C O.length c) (O ++ [L]) := by
  have h2 := h.below hb
  have hsz := hb.size
  have key : ∀ k, k < w2.heap.size → v.ownBlock ≠ some k → w4.heap[k]? = w2.heap[k]? := fun k hk hn => by
    rcases ht with ⟨g, cap, e, -, hg⟩ | ⟨cap, -, hg⟩
    · exact hg.block k hk (fun e2 => hn (by rw [e]; exact e2.symm))
    · exact hg.block k hk (fun e2 => by cases e2)
  have dnew : ∀ x, d = some x → v.ownBlock ≠ some x.block := fun x hx e => by
    have h3 := (hd.lt x hx).1
    have h4 := (rowG_ltV h.row e).2
    omega
  have hl : (O ++ [L]).length = O.length + 1 := by simp
  refine ⟨?_, fun j hj => ?_, fun j k x y hj hk hn hx hy => ?_, fun j x k hj hx hv => ?_⟩
  · rw [hl, tabC_appV]; exact ho
  · rw [hl] at hj
    by_cases e : j = O.length
    · subst e
      rw [upd_eq, upd_eq, nthL_endV]
      exact (hd.mono hB).keep fun x hx => key _ (hd.lt x hx).2 (dnew x hx)
    · rw [upd_ne e, upd_ne e, nthL_leftV (by omega)]
      exact (h2.rows j (by omega)).keep fun x hx => key _ ((h2.rows j (by omega)).lt x hx).2 (fun e2 => h.dt j x _ (by omega) hx e2 rfl)
  · rw [hl] at hj hk
    have old : ∀ j x, j < O.length → A j = some x → x.block < w.heap.size := fun j x hj hx => ((h.rows j hj).lt x hx).2
    by_cases e1 : j = O.length
    · subst e1
      rw [upd_eq] at hx
      rw [upd_ne (by omega)] at hy
      have := (hd.lt x hx).1
      have := old k y (by omega) hy
      omega
    · rw [upd_ne e1] at hx
      by_cases e2 : k = O.length
      · subst e2
        rw [upd_eq] at hy
        have := (hd.lt y hy).1
        have := old j x (by omega) hx
        omega
      · rw [upd_ne e2] at hy
        exact h.dd j k x y (by omega) (by omega) hn hx hy
  · rw [hl] at hj
    have hxl : x.block < w2.heap.size ∧ v.ownBlock ≠ some x.block := by
      by_cases e : j = O.length
      · subst e
        rw [upd_eq] at hx
        exact ⟨(hd.lt x hx).2, dnew x hx⟩
      · rw [upd_ne e] at hx
        exact ⟨((h2.rows j (by omega)).lt x hx).2, fun e2 => h.dt j x _ (by omega) hx e2 rfl⟩
    rcases ht with ⟨g, cap, e, e', hg⟩ | ⟨cap, e', hg⟩
    · rw [e'] at hv; cases hv
      exact fun e3 => hxl.2 (by rw [e, e3]; rfl)
    · rw [e'] at hv; cases hv
      have h9 := hxl.1
      show x.block ≠ w2.heap.size
      omega
theorem TabGV.out {B : Nat} {w : World} {x : Option Addr} {c : Nat} {A : Nat → Option Addr} {C : Nat → Nat} {O : List (List Int)} (h : TabGV B w (.slice x O.length c) A C O) : OutTV B w A C x O := by
  refine ⟨h.rows, h.dd, ?_⟩
  rcases h.row.2 with ⟨-, h2⟩ | ⟨g, cap, cur, hv, hg, hh, -⟩
  · exact .inl (List.eq_nil_of_length_eq_zero h2)
  · cases hv
    refine .inr ⟨g, rfl, hg, (Array.getElem?_eq_some_iff.1 hh).1, fun j hj => ?_, fun j y hj hy => h.dt j y g hj hy rfl⟩
    rw [World.ownsRow.cellAt h.row j (by simpa using hj)]
    unfold tabCV
    rw [List.getElem?_map, List.getElem?_range hj]
    rfl
theorem tabG_shapeV {B : Nat} {w : World} {v : Value} {A : Nat → Option Addr} {C : Nat → Nat} {O : List (List Int)} (h : TabGV B w v A C O) : ∃ x c, v = .slice x O.length c := by
  rcases h.row.2 with ⟨h1, h2⟩ | ⟨g, cap, cur, hv, -⟩
  · exact ⟨none, 0, by rw [h1, h2]⟩
  · exact ⟨_, cap, hv⟩
/-- append where nothing is laid behind. -/
theorem run_append_zeroV {P : Program} {w : World} (base : Nat) (t ty e : TypeId) (i : TypeInfo) (size : Nat) (ht : P.underlying t = some (.slice e)) (hi : P.info? e = some i)
    (v : Value) (n : Nat) (xs : List Value) (hown : w.ownsRow base e size v n xs) (y : Option Addr) (c : Nat) :
    (Builtin.append_ #[t, t] ty #[v, .slice y 0 c]).run P w = .ok v w := by
  rcases hown.2 with ⟨rfl, rfl⟩ | ⟨g, cap, cur, rfl, _, _, hnc, _⟩
  · cases y <;> simp [Builtin.append_, run_underlying ht, sizeOf, typeInfo, hi, Builtin.lenOf, Builtin.firstCells, loadCells, loadCellsFrom]
  · cases y <;> simp [Builtin.append_, run_underlying ht, sizeOf, typeInfo, hi, Builtin.lenOf, Builtin.firstCells, hnc, storeCells, loadCells, loadCellsFrom]
theorem TabGV.keep {B : Nat} {w w' : World} {v : Value} {A : Nat → Option Addr} {C : Nat → Nat} {O : List (List Int)} (h : TabGV B w v A C O) (hk : ∀ k, B ≤ k → k < w.heap.size → w'.heap[k]? = w.heap[k]?) : TabGV B w' v A C O :=
  ⟨rowG_laterV h.row fun k e => hk k (rowG_ltV h.row e).1 (rowG_ltV h.row e).2, fun j hj => (h.rows j hj).keep fun x hx => hk _ ((h.rows j hj).lt x hx).1 ((h.rows j hj).lt x hx).2, h.dd, h.dt⟩
/-- A table of rows whose blocks are told. -/
def TabXV (B : Nat) (X : Nat → Prop) (u : World) (O : List (List Int)) (z : Value) : Prop := ∃ A C, TabGV B u z A C O ∧ ∀ j x, j < O.length → A j = some x → X x.block
theorem TabXV.later {B : Nat} {X : Nat → Prop} {u u' : World} {O : List (List Int)} {z : Value} (h : TabXV B X u O z) (hb : Below u.heap.size u u') : TabXV B X u' O z := by
  obtain ⟨A, C, h1, h2⟩ := h
  exact ⟨A, C, h1.below hb, h2⟩
theorem tabG_oneV {B : Nat} {w : World} {a : Option Addr} {c1 : Nat} {P : List Int} (ha : CapR B w a c1 P) (hB : B ≤ w.heap.size) :
    TabGV B (w.alloc (.cells #[.slice a P.length c1] 25)) (.slice (some ⟨w.heap.size, 0, none⟩) 1 1) (fun _ => a) (fun _ => c1) [P] := by
  have bel := (Below.refl w.heap.size w).alloc (Nat.le_refl _) (.cells #[.slice a P.length c1] 25)
  refine ⟨?_, fun j hj => ?_, fun j k x y hj hk hn hx hy => ?_, fun j x k hj hx hv => ?_⟩
  · exact ⟨rfl, .inr ⟨w.heap.size, 1, #[.slice a P.length c1], rfl, hB, by show (w.heap.push _)[w.heap.size]? = _; simp, Nat.le_refl _, by unfold maxLen; omega, rfl, rfl⟩⟩
  · match j, hj with
    | 0, _ => exact ha.later bel
  · simp at hj hk; omega
  · cases hv
    have := (ha.lt x hx).2
    show x.block ≠ w.heap.size
    omega
/-- A row laid behind the rows of a table. -/
theorem wpList_appRow {w : World} {ops : Array Oper} {rest : List Oper} {o : Oper} {a : Act} {Q : Exit → Act → World → Prop} (hgd : o.guard = none) (s x : Operand) (ho : o.op = .call { callee := .builtin .append, args := #[s, x], argTypes := #[34, 34] })
    (B : Nat) (v0 : Value) (w0 : World) (A : Nat → Option Addr) (C : Nat → Nat) (O : List (List Int)) (hs : a.eval s = v0) (hT : TabGV B w0 v0 A C O) (hB0 : B ≤ w0.heap.size) (d : Option Addr) (c : Nat) (L : List Int) (hb : Below w0.heap.size w0 w) (hd : CapR w0.heap.size w d c L) (k : Nat) (hx : a.eval x = .slice (some ⟨k, 0, none⟩) 1 1) (hk : BlkA 25 k w #[.slice d L.length c]) (hlen : O.length ≤ 1000000)
    (h : ∀ v' w' A' C', TabGV B w' v' A' C' (O ++ [L]) → Below B w w' → wpList Try.prog ops Q rest (a.put o.dst v') w') : wpList Try.prog ops Q (o :: rest) a w := by
  obtain ⟨i1, hi1, hy0, hy1, hy2⟩ := info_parts Try.info25
  have hB : B ≤ w.heap.size := Nat.le_trans hB0 hb.size
  refine wpList_append_told (P := Try.prog) w hgd s x 34 ho B 25 i1 (.slice none 0 0) 1 24 Try.underlying34 hi1 hy0 hy1 hy2 rfl (by decide) v0 O.length (tabCV A C O) hs (hT.below hb).row ⟨k, 0, none⟩ 1 1 (by decide) [.slice d L.length c] hx rfl (fun j u hu => by
    have hj : j < 1 := by have := (List.getElem?_eq_some_iff.1 hu).1; simpa using this
    have e0 : j = 0 := by omega
    subst e0
    have e : (⟨k, 0, none⟩ : Addr).add 0 = ⟨k, 0, none⟩ := rfl
    rw [e]
    refine hk.cell ?_
    rw [← hu]
    simp) (fun u hu => by simp at hu; subst hu; rfl) (by unfold maxLen; omega) (by omega) hB ?_
  intro v' w' h2 h3
  refine h v' w' _ _ (hT.app hB0 hb hd h2 h3) ?_
  have hlt := fun q e => (rowG_ltV hT.row (k := q) e).1
  rcases h3 with ⟨g1, cap, e1, -, hg⟩ | ⟨cap, -, hg⟩
  · exact (Below.refl _ _).grown hg hB (fun q hq => by cases hq; exact hlt _ (by rw [e1]; rfl))
  · exact (Below.refl _ _).grown hg hB (fun q hq => by cases hq)
end Go.Proofs.Ytffikkkfnbffbaa
namespace Go.Proofs.Ytffikkkfnbffbaa
/-- The calls' code. -/
def codeV (n : NN) (zs : List Int) : Int := if checkN n = 0 then (if 2048 < zs.length then 2 else ((errV n (startT n) zs : Nat) : Int)) else checkN n
theorem code_bad {n : NN} {zs : List Int} (h : ¬ checkN n = 0) : codeV n zs = checkN n := if_neg h
theorem code_long {n : NN} {zs : List Int} (h : checkN n = 0) (hl : 2048 < zs.length) : codeV n zs = 2 := by unfold codeV; rw [if_pos h, if_pos hl]
theorem code_err {n : NN} {zs : List Int} (h : checkN n = 0) (hl : ¬ 2048 < zs.length) : codeV n zs = ((errV n (startT n) zs : Nat) : Int) := by unfold codeV; rw [if_pos h, if_neg hl]
theorem code_zero {n : NN} {zs : List Int} (h : codeV n zs = 0) : checkN n = 0 ∧ zs.length ≤ 2048 ∧ errV n (startT n) zs = 0 := by
  by_cases hc : checkN n = 0
  · by_cases hl : 2048 < zs.length
    · rw [code_long hc hl] at h; cases h
    · rw [code_err hc hl] at h; exact ⟨hc, by omega, by omega⟩
  · rw [code_bad hc] at h; exact absurd h hc
theorem rows_step {n : NN} {T : List Int} {v : Int} {zs : List Int} (R : List (List Int)) : R ++ (rowsV n T (v :: zs)).drop 1 = (R ++ [fireN n T v]) ++ (rowsV n (fireN n T v) zs).drop 1 := by
  rw [rowsV, List.append_assoc]
  congr 1
  cases zs <;> rfl
theorem fires_one_yes {n : NN} {v : Int} {T F : List Int} (h : mayN n T v = true) : firesN n [v] T F = (1, fireN n T v, bumpF F v) := by rw [firesN, if_pos h]; rfl
theorem fires_one_no {n : NN} {v : Int} {T F : List Int} (h : ¬ mayN n T v = true) : firesN n [v] T F = (0, T, F) := by rw [firesN, if_neg h]
theorem err_cons_node {n : NN} {v : Int} {zs T : List Int} (h : ¬ nodeB n v = true) : errV n T (v :: zs) = 100 := by rw [errV, if_neg h]
theorem err_cons_may {n : NN} {v : Int} {zs T : List Int} (h : nodeB n v = true) (h2 : ¬ mayN n T v = true) : errV n T (v :: zs) = 180 := by rw [errV, if_pos h, if_neg h2]
theorem err_cons_yes {n : NN} {v : Int} {zs T : List Int} (h : nodeB n v = true) (h2 : mayN n T v = true) : errV n T (v :: zs) = errV n (fireN n T v) zs := by rw [errV, if_pos h, if_pos h2]
end Go.Proofs.Ytffikkkfnbffbaa
namespace Go.Proofs.Ytffikkkfnbffbaa
open Go.ChangeShapes Go.WideShapes Go.ChangeAt Go.RowKit
/-- Two states of a net, side by side. -/
structure TwoS (w : World) (n : NN) (B1 E1 K1 B2 E2 K2 : Nat) (T F T' F' : List Int) (U : World) : Prop where
  s : StE B1 E1 U K1 n T F
  t : StE B2 E2 U K2 n T' F'
  bel : Below w.heap.size w U
theorem TwoS.below {w : World} {n : NN} {B1 E1 K1 B2 E2 K2 : Nat} {T F T' F' : List Int} {U U' : World} (h : TwoS w n B1 E1 K1 B2 E2 K2 T F T' F' U) (hb : Below U.heap.size U U') : TwoS w n B1 E1 K1 B2 E2 K2 T F T' F' U' := ⟨h.s.below hb, h.t.below hb, h.bel.trans (hb.mono h.bel.size)⟩
theorem StE.bel {B E Q : Nat} {w w' : World} {K : Nat} {n : NN} {T F : List Int} (h : StE B E w K n T F) (hb : Below Q w w') (hQ : E ≤ Q) : StE B E w' K n T F := h.keep (fun k _ h2 => hb.block k (by omega)) hb.size
/-- Rows of numbers that came in. -/
def RowsN (W : World) (a : Option Addr) (I : List (List Int)) : Prop := I = [] ∨ ∃ b off, a = some ⟨b, off, none⟩ ∧ ∀ k, k < I.length → ∃ x c, W.cell? ⟨b, off + k, none⟩ = some (.slice x (nthRw I k).length c) ∧ Arg W x (nthRw I k).length c (nthRw I k)
theorem RowsN.below {w w' : World} {a : Option Addr} {I : List (List Int)} (h : RowsN w a I) (hb : Below w.heap.size w w') : RowsN w' a I := by
  rcases h with h | ⟨b, off, e, hc⟩
  · exact .inl h
  · refine .inr ⟨b, off, e, fun k hk => ?_⟩
    obtain ⟨x, c, h1, h2⟩ := hc k hk
    exact ⟨x, c, cellN_later hb h1, h2.below hb⟩
theorem StE.long {B E : Nat} {w : World} {K : Nat} {n : NN} {T F : List Int} (h : StE B E w K n T F) : T.length = n.arcs.length ∧ F.length = n.nodes.toNat := by
  obtain ⟨aA, cA, H1, H2, D1, D2, E1, E2, aT, cT, gF, h⟩ := h
  exact ⟨h.lT, h.lF⟩
theorem countsL {B E : Nat} (w : World) (K : Nat) (n : NN) (T F : List Int) (h : StE B E w K n T F) : Calls Try.prog 41 #[.pointer (some ⟨K, 0, none⟩)] w fun e w' => ∃ (a : Option Addr) (cap : Nat), e = .returned (.slice a n.arcs.length cap) ∧ CapR w.heap.size w' a cap T ∧ Below w.heap.size w w' := by
  have r := counts_any w K n T F h
  unfold RowEndN at r
  rw [h.long.1] at r
  exact r
theorem But.keepN {g : Nat} {w w' : World} (h : But g w w') {b k : Nat} {v : Value} (hn : b ≠ g) (hc : w.cell? ⟨b, k, none⟩ = some v) : w'.cell? ⟨b, k, none⟩ = some v := cell_block (h.block b (block_lt_of_cell hc) hn) hc
theorem drop_nthV {zs : List Int} {k : Nat} (h : k < zs.length) : zs.drop k = nth zs k :: zs.drop (k + 1) := by
  rw [List.drop_eq_getElem_cons h]; unfold nth; rw [List.getD_eq_getElem?_getD, List.getElem?_eq_getElem h]; rfl
/-- How a call that goes over the moments ends. -/
def MomE (P : Nat → World → Value → List (List Int) → Prop) (z : Value) (n : NN) (zs : List Int) (w : World) (e : Ending) (w' : World) : Prop :=
  (codeV n zs = 0 ∧ ∃ B v, e = .returned (.tuple #[v, .int .i64 0]) ∧ w.heap.size ≤ B ∧ B ≤ w'.heap.size ∧ P B w' v (rowsV n (startT n) zs) ∧ Below w.heap.size w w') ∨ (¬ codeV n zs = 0 ∧ e = .returned (.tuple #[z, .int .i64 (codeV n zs)]) ∧ Below w.heap.size w w')
set_option maxRecDepth 100000 in
set_option maxHeartbeats 16000000 in
theorem moments1_any (P : Nat → World → Value → List (List Int) → Prop) (n : NN) (kp : ∀ B w w' v R, P B w v R → (∀ k, B ≤ k → k < w.heap.size → w'.heap[k]? = w.heap[k]?) → w.heap.size ≤ w'.heap.size → P B w' v R)
    (hf : ∀ (B : Nat) (w : World) (d : Option Addr) (c : Nat) (T : List Int), CapR B w d c T → B ≤ w.heap.size → T.length = n.arcs.length → Calls Try.prog 18 #[.slice d n.arcs.length c] w fun e w' => ∃ v, e = .returned v ∧ P B w' v [T] ∧ Below B w w')
    (hn : ∀ (B : Nat) (w0 w : World) (v : Value) (R : List (List Int)) (d : Option Addr) (c : Nat) (L : List Int), P B w0 v R → B ≤ w0.heap.size → Below w0.heap.size w0 w → CapR w0.heap.size w d c L → R.length ≤ 1000000 → L.length = n.arcs.length → Calls Try.prog 19 #[v, .slice d n.arcs.length c] w fun e w' => ∃ v', e = .returned v' ∧ P B w' v' (R ++ [L]) ∧ Below B w w')
    (a : Option Addr) (c : Nat) (w : World) (h : AtN w a n.arcs) (hroom : n.arcs.length ≤ 4611686018427387904) (hna : a = none → n.arcs.length = 0 ∧ c = 0) (al : Option Addr) (cl : Nat) (zs : List Int) (hz : At w al zs) (hzl : zs.length ≤ 4611686018427387904) :
    Calls Try.prog 20 #[.agg #[.int .i64 n.nodes, .slice a n.arcs.length c], .func (.func 18) #[] #[], .func (.func 19) #[] #[], .slice al zs.length cl] w (MomE P (.slice none 0 0) n zs w) := by
  obtain ⟨ME, hME⟩ : ∃ R, MomE P (.slice none 0 0) n zs w = R := ⟨_, rfl⟩
  rw [hME]
  have HME := hiddenN hME
  have KP := hiddenN kp
  have HF := hiddenN hf
  have HN := hiddenN hn
  clear hME kp hf hn
  have b0 := (Below.refl w.heap.size w).alloc (Nat.le_refl _) (.cells #[.int .i64 n.nodes, .slice a n.arcs.length c] 24)
  have G0 := hiddenN (blkA_new 24 w #[.int .i64 n.nodes, .slice a n.arcs.length c])
  have B0 := hiddenN b0
  have NW := hiddenN (newS_any n a c _ (h.below b0) hroom hna)
  have HZ := hiddenN (hz.below b0)
  have z0 := G0.out.cell (k := 0) rfl
  have z1 := G0.out.cell (k := 1) rfl
  simp only [List.getElem_toArray, List.getElem_cons_zero, List.getElem_cons_succ] at z0 z1
  clear b0 h hz hna
  by_cases hc0 : checkN n = 0
  · have NY : Hid (Calls Try.prog 40 #[.agg #[.int .i64 n.nodes, .slice a n.arcs.length c]] (w.alloc (.cells #[.int .i64 n.nodes, .slice a n.arcs.length c] 24)) fun e w' => ∃ K E, e = .returned (.tuple #[.pointer (some ⟨K, 0, none⟩), .int .i64 0]) ∧ StE (w.alloc (.cells #[.int .i64 n.nodes, .slice a n.arcs.length c] 24)).heap.size E w' K n (startT n) (List.replicate n.nodes.toNat 0) ∧ Below (w.alloc (.cells #[.int .i64 n.nodes, .slice a n.arcs.length c] 24)).heap.size (w.alloc (.cells #[.int .i64 n.nodes, .slice a n.arcs.length c] 24)) w') := NW.out.mono fun e w' hh => by
      unfold NewE at hh
      rw [if_pos hc0] at hh
      exact hh
    clear NW
    by_cases hl : 2048 < zs.length
    · have CZ := hiddenN (code_long hc0 hl)
      have hli : (zs.length : Int) > 2048 := by omega
      clear hc0
      go_enter Try.func20, Try.ntmps20
      go_upto_region 1 with fail
      generalize w.alloc (.cells #[.int .i64 n.nodes, .slice a n.arcs.length c] 24) = W0 at *
      go_wp2_with (go_at_call 40; (with_reducible refine NY.out.mono ?_); rintro e W1 ⟨K, E, rfl, s1, b1⟩; have L1 := hiddenN (B0.out.trans (b1.mono B0.out.size)); clear s1 b1 z0 z1)
      rw [← HME.out]
      exact .inr ⟨by rw [CZ.out]; decide, by rw [CZ.out]; rfl, L1.out⟩
    · have CE := hiddenN (code_err hc0 hl)
      have hli : ¬ (zs.length : Int) > 2048 := by omega
      have HSN := hiddenN (check_sound hc0)
      clear hc0
      go_enter Try.func20, Try.ntmps20
      go_upto_region 1 with fail
      generalize w.alloc (.cells #[.int .i64 n.nodes, .slice a n.arcs.length c] 24) = W0 at *
      go_upto_region 3 with (go_at_call 40; (with_reducible refine NY.out.mono ?_); rintro e W1 ⟨K, E, rfl, s1, b1⟩; have S1 := hiddenN s1; have L1 := hiddenN b1; clear s1 b1 z0 z1)
      clear NY
      have HTL := hiddenN S1.out.long.1
      have hEB := S1.out.low
      have h01 : W0.heap.size ≤ W1.heap.size := L1.out.size
      have z0 := (G0.out.below L1.out).cell (k := 0) rfl
      simp only [List.getElem_toArray, List.getElem_cons_zero] at z0
      generalize hT0 : startT n = T0 at *
      have HT0 := hiddenN hT0
      clear hT0
      go_upto_region 8 with (first
        | (go_at_call 41; (with_reducible refine (countsL W1 K n _ _ S1.out).mono ?_); rintro e W2 ⟨d2, c2, rfl, r2, b2⟩; have S2 := hiddenN (S1.out.below b2); have L2 := hiddenN (L1.out.trans (b2.mono h01)); have h12 := b2.size; have FF := hiddenN (HF.out W1.heap.size W2 d2 c2 T0 r2 b2.size HTL.out); clear r2 b2)
        | (go_at_call 18; (with_reducible refine FF.out.mono ?_); rintro e W3 ⟨v3, rfl, p3, b3⟩; have P3 := hiddenN p3; have S3 := hiddenN (S2.out.keep (fun k _ hk => b3.block k (by omega)) b3.size); have L3 := hiddenN (L2.out.trans (b3.mono h01)); have h23 := b3.size; clear p3 b3))
      have HZ0 : Hid (∀ U, Below W0.heap.size W0 U → At U al zs) := fun U hb => HZ.out.below hb
      have HG0 : Hid (∀ U, Below W0.heap.size W0 U → U.cell? ⟨w.heap.size, 0, none⟩ = some (.int .i64 n.nodes)) := fun U hb => (G0.out.below hb).cell (k := 0) rfl
      have h13 : W1.heap.size ≤ W3.heap.size := Nat.le_trans h12 h23
      clear z0 HZ G0 S1 S2 L1 L2 FF h12 h23
      go_wp2
      go_loopg [13, 35] zs.length (fun gk u13 u35 wr => ∃ (k : Nat) (T F : List Int) (R : List (List Int)), k ≤ zs.length ∧ gk = zs.length - k ∧ u35 = .int .i64 (k : Int) ∧ errV n T (zs.drop k) = errV n T0 zs ∧ R ++ (rowsV n T (zs.drop k)).drop 1 = rowsV n T0 zs ∧ R.length = k + 1 ∧ P W1.heap.size wr u13 R ∧ StE W0.heap.size E wr K n T F ∧ Below W0.heap.size W0 wr ∧ W1.heap.size ≤ wr.heap.size)
      case atStart => exact ⟨0, T0, _, [T0], Nat.zero_le _, rfl, rfl, by rw [List.drop_zero], by rw [List.drop_zero]; cases zs <;> rfl, rfl, P3.out, S3.out, L3.out, h13⟩
      case round =>
        clear P3 S3 L3 h13
        obtain ⟨k, T, F, R, hk, rfl, rfl, he, hR, hRl, hP, hS, hL, hw⟩ := hrel
        have HE := hiddenN he
        have HR := hiddenN hR
        have HRL := hiddenN hRl
        have PR := hiddenN hP
        have SR := hiddenN hS
        have LR := hiddenN hL
        clear he hR hRl hP hS hL
        have z0 := HG0.out _ LR.out
        by_cases hlt : k < zs.length
        · have hki : (k : Int) < (zs.length : Int) := by omega
          have ed := drop_nthV hlt
          rcases HZ0.out _ LR.out with e | ⟨zb, zo, rfl, hc⟩
          · rw [e] at hlt; simp at hlt
          have c0 := hc k hlt
          rw [ed] at HE HR
          generalize nth zs k = v at *
          clear hc ed
          have hkb := HRL.out
          have bA := (Below.refl wr.heap.size wr).alloc (Nat.le_refl _) (.cells #[.int .i64 v] 3)
          have hwA : W0.heap.size ≤ (wr.alloc (.cells #[.int .i64 v] 3)).heap.size := by rw [World.size_alloc]; omega
          have hwB : W1.heap.size ≤ (wr.alloc (.cells #[.int .i64 v] 3)).heap.size := by rw [World.size_alloc]; omega
          have PA := hiddenN (KP.out _ _ _ _ _ PR.out (fun q _ hq => bA.block q hq) bA.size)
          have LA := hiddenN (LR.out.trans (bA.mono LR.out.size))
          have SA := hiddenN (SR.out.below bA)
          have FA := hiddenN (fires_any (wr.alloc (.cells #[.int .i64 v] 3)) K n T F SA.out (some ⟨wr.heap.size, 0, none⟩) 1 [v] (at_alloc1 wr v) (by simp) (fun x hx _ => by cases hx; exact .inr SR.out.low.2))
          have LRw := hiddenN (B0.out.trans (LR.out.mono B0.out.size))
          have LAw := hiddenN (B0.out.trans (LA.out.mono B0.out.size))
          by_cases hv : nodeB n v = true
          · have hvb : 0 ≤ v ∧ v < n.nodes := of_decide_eq_true hv
            have h1 : ¬ v < 0 := by omega
            have h2 : ¬ v ≥ n.nodes := by omega
            by_cases hm : mayN n T v = true
            · have F1 : Hid (Calls Try.prog 42 #[.pointer (some ⟨K, 0, none⟩), .slice (some ⟨wr.heap.size, 0, none⟩) 1 1] (wr.alloc (.cells #[.int .i64 v] 3)) fun e w' => e = .returned (.int .i64 1) ∧ StE W0.heap.size E w' K n (fireN n T v) (bumpF F v) ∧ Mid W0.heap.size E (wr.alloc (.cells #[.int .i64 v] 3)) w') := by
                have q := FA.out
                rw [fires_one_yes hm] at q
                exact q
              have HE2 := hiddenN ((err_cons_yes hv hm (zs := zs.drop (k + 1))).symm.trans HE.out)
              have HR2 := hiddenN ((rows_step R (n := n) (T := T) (v := v) (zs := zs.drop (k + 1))).symm.trans HR.out)
              clear hv hvb hm FA HE HR bA LRw LAw
              generalize fireN n T v = T' at *
              generalize bumpF F v = F' at *
              go_upto_region 15 with (go_at_call 42; (with_reducible refine F1.out.mono ?_); rintro e W5 ⟨rfl, s5, m5⟩; have S5 := hiddenN s5; have P5 := hiddenN (KP.out _ _ _ _ _ PA.out (fun q h1 h2 => m5.block q h2 (.inr (by omega))) m5.size); have L5 := hiddenN (LA.out.trans (m5.below hwA)); have h5 := Nat.le_trans hwB m5.size; clear s5 m5)
              have CT := hiddenN (countsL W5 K n _ _ S5.out)
              have HL5 := hiddenN S5.out.long.1
              clear F1 PA LA SA PR LR SR c0 z0 hwA hwB
              go_wp2_with (first
                | (go_at_call 41; (with_reducible refine CT.out.mono ?_); rintro e W6 ⟨d6, c6, rfl, r6, b6⟩; have S6 := hiddenN (S5.out.below b6); have L6 := hiddenN (L5.out.trans (b6.mono L5.out.size)); have h6 := b6.size; have NN := hiddenN (HN.out W1.heap.size W5 W6 _ R d6 c6 T' P5.out h5 b6 r6 (by omega) HL5.out); clear r6 b6)
                | (go_at_call 19; (with_reducible refine NN.out.mono ?_); rintro e W7 ⟨v7, rfl, p7, b7⟩; have P7 := hiddenN p7; have S7 := hiddenN (S6.out.keep (fun q _ hq => b7.block q (by omega)) b7.size); have L7 := hiddenN (L6.out.trans (b7.mono h01)); have h7 := Nat.le_trans (Nat.le_trans h5 h6) b7.size; clear p7 b7))
              go_roundg (zs.length - (k + 1))
              case measure => omega
              case rel => exact ⟨k + 1, T', F', R ++ [T'], by omega, rfl, by go_num, HE2.out, HR2.out, by rw [List.length_append, HRL.out]; rfl, P7.out, S7.out, L7.out, h7⟩
            · have F1 : Hid (Calls Try.prog 42 #[.pointer (some ⟨K, 0, none⟩), .slice (some ⟨wr.heap.size, 0, none⟩) 1 1] (wr.alloc (.cells #[.int .i64 v] 3)) fun e w' => e = .returned (.int .i64 0) ∧ StE W0.heap.size E w' K n T F ∧ Mid W0.heap.size E (wr.alloc (.cells #[.int .i64 v] 3)) w') := by
                have q := FA.out
                rw [fires_one_no hm] at q
                exact q
              have CV : Hid (codeV n zs = 180) := by show _ = _; rw [CE.out, ← HE.out, err_cons_may hv hm]; rfl
              clear hv hvb hm FA HE HR bA
              go_wp2_with (go_at_call 42; (with_reducible refine F1.out.mono ?_); rintro e W5 ⟨rfl, -, m5⟩; have L5 := hiddenN (LAw.out.trans ((m5.below hwA).mono B0.out.size)); clear m5)
              rw [← HME.out]
              exact .inr ⟨by rw [CV.out]; decide, by (rw [CV.out]; try rfl), L5.out⟩
          · have CV : Hid (codeV n zs = 100) := by show _ = _; rw [CE.out, ← HE.out, err_cons_node hv]; rfl
            have hvb : ¬ (0 ≤ v ∧ v < n.nodes) := fun h => hv (decide_eq_true h)
            clear FA HE HR bA PA LA SA LAw hv
            by_cases h1 : v < 0
            · go_wp2
              rw [← HME.out]
              exact .inr ⟨by rw [CV.out]; decide, by (rw [CV.out]; try rfl), LRw.out⟩
            · have h2 : v ≥ n.nodes := by omega
              go_wp2
              rw [← HME.out]
              exact .inr ⟨by rw [CV.out]; decide, by (rw [CV.out]; try rfl), LRw.out⟩
        · have ek : zs.length = k := by omega
          have hki : ¬ (k : Int) < (zs.length : Int) := by omega
          have hd : zs.drop k = [] := by rw [← ek]; exact List.drop_length
          have CV : Hid (codeV n zs = 0) := by show _ = _; rw [CE.out, ← HE.out, hd]; rfl
          have HR2 : Hid (R = rowsV n T0 zs) := by
            show _ = _
            have q := HR.out
            rw [hd] at q
            rw [← q, rowsV]
            simp
          have LRw := hiddenN (B0.out.trans (LR.out.mono B0.out.size))
          clear HE HR ek hd
          go_wp2
          rw [← HME.out]
          refine .inl ⟨CV.out, W1.heap.size, _, rfl, ?_, hw, ?_, LRw.out⟩
          · exact Nat.le_trans B0.out.size h01
          · rw [HT0.out, ← HR2.out]; exact PR.out
  · have NO : Hid (Calls Try.prog 40 #[.agg #[.int .i64 n.nodes, .slice a n.arcs.length c]] (w.alloc (.cells #[.int .i64 n.nodes, .slice a n.arcs.length c] 24)) fun e w' => e = .returned (.tuple #[.pointer none, .int .i64 (checkN n)]) ∧ Below (w.alloc (.cells #[.int .i64 n.nodes, .slice a n.arcs.length c] 24)).heap.size (w.alloc (.cells #[.int .i64 n.nodes, .slice a n.arcs.length c] 24)) w') := NW.out.mono fun e w' hh => by
      unfold NewE at hh
      rw [if_neg hc0] at hh
      exact hh
    have CB := hiddenN (code_bad (zs := zs) hc0)
    have HC0 := hiddenN hc0
    have hcb : (checkN n != 0) = true := by simpa using hc0
    clear NW hc0
    generalize checkN n = cd at *
    go_enter Try.func20, Try.ntmps20
    go_upto_region 1 with fail
    generalize w.alloc (.cells #[.int .i64 n.nodes, .slice a n.arcs.length c] 24) = W0 at *
    go_wp2_with (go_at_call 40; (with_reducible refine NO.out.mono ?_); rintro e W1 ⟨rfl, b1⟩; have L1 := hiddenN (B0.out.trans (b1.mono B0.out.size)); clear b1 z0 z1)
    rw [← HME.out]
    exact .inr ⟨by rw [CB.out]; exact HC0.out, by rw [CB.out]; rfl, L1.out⟩
set_option maxRecDepth 100000 in
set_option maxHeartbeats 16000000 in
theorem moments2_any (P : Nat → World → Value → List (List Int) → Prop) (n : NN) (kp : ∀ B w w' v R, P B w v R → (∀ k, B ≤ k → k < w.heap.size → w'.heap[k]? = w.heap[k]?) → w.heap.size ≤ w'.heap.size → P B w' v R)
    (hf : ∀ (B : Nat) (w : World) (d : Option Addr) (c : Nat) (T : List Int), CapR B w d c T → B ≤ w.heap.size → T.length = n.arcs.length → Calls Try.prog 46 #[.slice d n.arcs.length c] w fun e w' => ∃ v, e = .returned v ∧ P B w' v [T] ∧ Below B w w')
    (hn : ∀ (B : Nat) (w0 w : World) (v : Value) (R : List (List Int)) (d : Option Addr) (c : Nat) (L : List Int), P B w0 v R → B ≤ w0.heap.size → Below w0.heap.size w0 w → CapR w0.heap.size w d c L → R.length ≤ 1000000 → L.length = n.arcs.length → Calls Try.prog 48 #[v, .slice d n.arcs.length c] w fun e w' => ∃ v', e = .returned v' ∧ P B w' v' (R ++ [L]) ∧ Below B w w')
    (a : Option Addr) (c : Nat) (w : World) (h : AtN w a n.arcs) (hroom : n.arcs.length ≤ 4611686018427387904) (hna : a = none → n.arcs.length = 0 ∧ c = 0) (al : Option Addr) (cl : Nat) (zs : List Int) (hz : At w al zs) (hzl : zs.length ≤ 4611686018427387904) :
    Calls Try.prog 47 #[.agg #[.int .i64 n.nodes, .slice a n.arcs.length c], .func (.func 46) #[] #[], .func (.func 48) #[] #[], .slice al zs.length cl] w (MomE P (.slice none 0 0) n zs w) := by
  obtain ⟨ME, hME⟩ : ∃ R, MomE P (.slice none 0 0) n zs w = R := ⟨_, rfl⟩
  rw [hME]
  have HME := hiddenN hME
  have KP := hiddenN kp
  have HF := hiddenN hf
  have HN := hiddenN hn
  clear hME kp hf hn
  have b0 := (Below.refl w.heap.size w).alloc (Nat.le_refl _) (.cells #[.int .i64 n.nodes, .slice a n.arcs.length c] 24)
  have G0 := hiddenN (blkA_new 24 w #[.int .i64 n.nodes, .slice a n.arcs.length c])
  have B0 := hiddenN b0
  have NW := hiddenN (newS_any n a c _ (h.below b0) hroom hna)
  have HZ := hiddenN (hz.below b0)
  have z0 := G0.out.cell (k := 0) rfl
  have z1 := G0.out.cell (k := 1) rfl
  simp only [List.getElem_toArray, List.getElem_cons_zero, List.getElem_cons_succ] at z0 z1
  clear b0 h hz hna
  by_cases hc0 : checkN n = 0
  · have NY : Hid (Calls Try.prog 40 #[.agg #[.int .i64 n.nodes, .slice a n.arcs.length c]] (w.alloc (.cells #[.int .i64 n.nodes, .slice a n.arcs.length c] 24)) fun e w' => ∃ K E, e = .returned (.tuple #[.pointer (some ⟨K, 0, none⟩), .int .i64 0]) ∧ StE (w.alloc (.cells #[.int .i64 n.nodes, .slice a n.arcs.length c] 24)).heap.size E w' K n (startT n) (List.replicate n.nodes.toNat 0) ∧ Below (w.alloc (.cells #[.int .i64 n.nodes, .slice a n.arcs.length c] 24)).heap.size (w.alloc (.cells #[.int .i64 n.nodes, .slice a n.arcs.length c] 24)) w') := NW.out.mono fun e w' hh => by
      unfold NewE at hh
      rw [if_pos hc0] at hh
      exact hh
    clear NW
    by_cases hl : 2048 < zs.length
    · have CZ := hiddenN (code_long hc0 hl)
      have hli : (zs.length : Int) > 2048 := by omega
      clear hc0
      go_enter Try.func47, Try.ntmps47
      go_upto_region 1 with fail
      generalize w.alloc (.cells #[.int .i64 n.nodes, .slice a n.arcs.length c] 24) = W0 at *
      go_wp2_with (go_at_call 40; (with_reducible refine NY.out.mono ?_); rintro e W1 ⟨K, E, rfl, s1, b1⟩; have L1 := hiddenN (B0.out.trans (b1.mono B0.out.size)); clear s1 b1 z0 z1)
      rw [← HME.out]
      exact .inr ⟨by rw [CZ.out]; decide, by rw [CZ.out]; rfl, L1.out⟩
    · have CE := hiddenN (code_err hc0 hl)
      have hli : ¬ (zs.length : Int) > 2048 := by omega
      have HSN := hiddenN (check_sound hc0)
      clear hc0
      go_enter Try.func47, Try.ntmps47
      go_upto_region 1 with fail
      generalize w.alloc (.cells #[.int .i64 n.nodes, .slice a n.arcs.length c] 24) = W0 at *
      go_upto_region 3 with (go_at_call 40; (with_reducible refine NY.out.mono ?_); rintro e W1 ⟨K, E, rfl, s1, b1⟩; have S1 := hiddenN s1; have L1 := hiddenN b1; clear s1 b1 z0 z1)
      clear NY
      have HTL := hiddenN S1.out.long.1
      have hEB := S1.out.low
      have h01 : W0.heap.size ≤ W1.heap.size := L1.out.size
      have z0 := (G0.out.below L1.out).cell (k := 0) rfl
      simp only [List.getElem_toArray, List.getElem_cons_zero] at z0
      generalize hT0 : startT n = T0 at *
      have HT0 := hiddenN hT0
      clear hT0
      go_upto_region 8 with (first
        | (go_at_call 41; (with_reducible refine (countsL W1 K n _ _ S1.out).mono ?_); rintro e W2 ⟨d2, c2, rfl, r2, b2⟩; have S2 := hiddenN (S1.out.below b2); have L2 := hiddenN (L1.out.trans (b2.mono h01)); have h12 := b2.size; have FF := hiddenN (HF.out W1.heap.size W2 d2 c2 T0 r2 b2.size HTL.out); clear r2 b2)
        | (go_at_call 46; (with_reducible refine FF.out.mono ?_); rintro e W3 ⟨v3, rfl, p3, b3⟩; have P3 := hiddenN p3; have S3 := hiddenN (S2.out.keep (fun k _ hk => b3.block k (by omega)) b3.size); have L3 := hiddenN (L2.out.trans (b3.mono h01)); have h23 := b3.size; clear p3 b3))
      have HZ0 : Hid (∀ U, Below W0.heap.size W0 U → At U al zs) := fun U hb => HZ.out.below hb
      have HG0 : Hid (∀ U, Below W0.heap.size W0 U → U.cell? ⟨w.heap.size, 0, none⟩ = some (.int .i64 n.nodes)) := fun U hb => (G0.out.below hb).cell (k := 0) rfl
      have h13 : W1.heap.size ≤ W3.heap.size := Nat.le_trans h12 h23
      clear z0 HZ G0 S1 S2 L1 L2 FF h12 h23
      go_wp2
      go_loopg [13, 35] zs.length (fun gk u13 u35 wr => ∃ (k : Nat) (T F : List Int) (R : List (List Int)), k ≤ zs.length ∧ gk = zs.length - k ∧ u35 = .int .i64 (k : Int) ∧ errV n T (zs.drop k) = errV n T0 zs ∧ R ++ (rowsV n T (zs.drop k)).drop 1 = rowsV n T0 zs ∧ R.length = k + 1 ∧ P W1.heap.size wr u13 R ∧ StE W0.heap.size E wr K n T F ∧ Below W0.heap.size W0 wr ∧ W1.heap.size ≤ wr.heap.size)
      case atStart => exact ⟨0, T0, _, [T0], Nat.zero_le _, rfl, rfl, by rw [List.drop_zero], by rw [List.drop_zero]; cases zs <;> rfl, rfl, P3.out, S3.out, L3.out, h13⟩
      case round =>
        clear P3 S3 L3 h13
        obtain ⟨k, T, F, R, hk, rfl, rfl, he, hR, hRl, hP, hS, hL, hw⟩ := hrel
        have HE := hiddenN he
        have HR := hiddenN hR
        have HRL := hiddenN hRl
        have PR := hiddenN hP
        have SR := hiddenN hS
        have LR := hiddenN hL
        clear he hR hRl hP hS hL
        have z0 := HG0.out _ LR.out
        by_cases hlt : k < zs.length
        · have hki : (k : Int) < (zs.length : Int) := by omega
          have ed := drop_nthV hlt
          rcases HZ0.out _ LR.out with e | ⟨zb, zo, rfl, hc⟩
          · rw [e] at hlt; simp at hlt
          have c0 := hc k hlt
          rw [ed] at HE HR
          generalize nth zs k = v at *
          clear hc ed
          have hkb := HRL.out
          have bA := (Below.refl wr.heap.size wr).alloc (Nat.le_refl _) (.cells #[.int .i64 v] 3)
          have hwA : W0.heap.size ≤ (wr.alloc (.cells #[.int .i64 v] 3)).heap.size := by rw [World.size_alloc]; omega
          have hwB : W1.heap.size ≤ (wr.alloc (.cells #[.int .i64 v] 3)).heap.size := by rw [World.size_alloc]; omega
          have PA := hiddenN (KP.out _ _ _ _ _ PR.out (fun q _ hq => bA.block q hq) bA.size)
          have LA := hiddenN (LR.out.trans (bA.mono LR.out.size))
          have SA := hiddenN (SR.out.below bA)
          have FA := hiddenN (fires_any (wr.alloc (.cells #[.int .i64 v] 3)) K n T F SA.out (some ⟨wr.heap.size, 0, none⟩) 1 [v] (at_alloc1 wr v) (by simp) (fun x hx _ => by cases hx; exact .inr SR.out.low.2))
          have LRw := hiddenN (B0.out.trans (LR.out.mono B0.out.size))
          have LAw := hiddenN (B0.out.trans (LA.out.mono B0.out.size))
          by_cases hv : nodeB n v = true
          · have hvb : 0 ≤ v ∧ v < n.nodes := of_decide_eq_true hv
            have h1 : ¬ v < 0 := by omega
            have h2 : ¬ v ≥ n.nodes := by omega
            by_cases hm : mayN n T v = true
            · have F1 : Hid (Calls Try.prog 42 #[.pointer (some ⟨K, 0, none⟩), .slice (some ⟨wr.heap.size, 0, none⟩) 1 1] (wr.alloc (.cells #[.int .i64 v] 3)) fun e w' => e = .returned (.int .i64 1) ∧ StE W0.heap.size E w' K n (fireN n T v) (bumpF F v) ∧ Mid W0.heap.size E (wr.alloc (.cells #[.int .i64 v] 3)) w') := by
                have q := FA.out
                rw [fires_one_yes hm] at q
                exact q
              have HE2 := hiddenN ((err_cons_yes hv hm (zs := zs.drop (k + 1))).symm.trans HE.out)
              have HR2 := hiddenN ((rows_step R (n := n) (T := T) (v := v) (zs := zs.drop (k + 1))).symm.trans HR.out)
              clear hv hvb hm FA HE HR bA LRw LAw
              generalize fireN n T v = T' at *
              generalize bumpF F v = F' at *
              go_upto_region 15 with (go_at_call 42; (with_reducible refine F1.out.mono ?_); rintro e W5 ⟨rfl, s5, m5⟩; have S5 := hiddenN s5; have P5 := hiddenN (KP.out _ _ _ _ _ PA.out (fun q h1 h2 => m5.block q h2 (.inr (by omega))) m5.size); have L5 := hiddenN (LA.out.trans (m5.below hwA)); have h5 := Nat.le_trans hwB m5.size; clear s5 m5)
              have CT := hiddenN (countsL W5 K n _ _ S5.out)
              have HL5 := hiddenN S5.out.long.1
              clear F1 PA LA SA PR LR SR c0 z0 hwA hwB
              go_wp2_with (first
                | (go_at_call 41; (with_reducible refine CT.out.mono ?_); rintro e W6 ⟨d6, c6, rfl, r6, b6⟩; have S6 := hiddenN (S5.out.below b6); have L6 := hiddenN (L5.out.trans (b6.mono L5.out.size)); have h6 := b6.size; have NN := hiddenN (HN.out W1.heap.size W5 W6 _ R d6 c6 T' P5.out h5 b6 r6 (by omega) HL5.out); clear r6 b6)
                | (go_at_call 48; (with_reducible refine NN.out.mono ?_); rintro e W7 ⟨v7, rfl, p7, b7⟩; have P7 := hiddenN p7; have S7 := hiddenN (S6.out.keep (fun q _ hq => b7.block q (by omega)) b7.size); have L7 := hiddenN (L6.out.trans (b7.mono h01)); have h7 := Nat.le_trans (Nat.le_trans h5 h6) b7.size; clear p7 b7))
              go_roundg (zs.length - (k + 1))
              case measure => omega
              case rel => exact ⟨k + 1, T', F', R ++ [T'], by omega, rfl, by go_num, HE2.out, HR2.out, by rw [List.length_append, HRL.out]; rfl, P7.out, S7.out, L7.out, h7⟩
            · have F1 : Hid (Calls Try.prog 42 #[.pointer (some ⟨K, 0, none⟩), .slice (some ⟨wr.heap.size, 0, none⟩) 1 1] (wr.alloc (.cells #[.int .i64 v] 3)) fun e w' => e = .returned (.int .i64 0) ∧ StE W0.heap.size E w' K n T F ∧ Mid W0.heap.size E (wr.alloc (.cells #[.int .i64 v] 3)) w') := by
                have q := FA.out
                rw [fires_one_no hm] at q
                exact q
              have CV : Hid (codeV n zs = 180) := by show _ = _; rw [CE.out, ← HE.out, err_cons_may hv hm]; rfl
              clear hv hvb hm FA HE HR bA
              go_wp2_with (go_at_call 42; (with_reducible refine F1.out.mono ?_); rintro e W5 ⟨rfl, -, m5⟩; have L5 := hiddenN (LAw.out.trans ((m5.below hwA).mono B0.out.size)); clear m5)
              rw [← HME.out]
              exact .inr ⟨by rw [CV.out]; decide, by (rw [CV.out]; try rfl), L5.out⟩
          · have CV : Hid (codeV n zs = 100) := by show _ = _; rw [CE.out, ← HE.out, err_cons_node hv]; rfl
            have hvb : ¬ (0 ≤ v ∧ v < n.nodes) := fun h => hv (decide_eq_true h)
            clear FA HE HR bA PA LA SA LAw hv
            by_cases h1 : v < 0
            · go_wp2
              rw [← HME.out]
              exact .inr ⟨by rw [CV.out]; decide, by (rw [CV.out]; try rfl), LRw.out⟩
            · have h2 : v ≥ n.nodes := by omega
              go_wp2
              rw [← HME.out]
              exact .inr ⟨by rw [CV.out]; decide, by (rw [CV.out]; try rfl), LRw.out⟩
        · have ek : zs.length = k := by omega
          have hki : ¬ (k : Int) < (zs.length : Int) := by omega
          have hd : zs.drop k = [] := by rw [← ek]; exact List.drop_length
          have CV : Hid (codeV n zs = 0) := by show _ = _; rw [CE.out, ← HE.out, hd]; rfl
          have HR2 : Hid (R = rowsV n T0 zs) := by
            show _ = _
            have q := HR.out
            rw [hd] at q
            rw [← q, rowsV]
            simp
          have LRw := hiddenN (B0.out.trans (LR.out.mono B0.out.size))
          clear HE HR ek hd
          go_wp2
          rw [← HME.out]
          refine .inl ⟨CV.out, W1.heap.size, _, rfl, ?_, hw, ?_, LRw.out⟩
          · exact Nat.le_trans B0.out.size h01
          · rw [HT0.out, ← HR2.out]; exact PR.out
  · have NO : Hid (Calls Try.prog 40 #[.agg #[.int .i64 n.nodes, .slice a n.arcs.length c]] (w.alloc (.cells #[.int .i64 n.nodes, .slice a n.arcs.length c] 24)) fun e w' => e = .returned (.tuple #[.pointer none, .int .i64 (checkN n)]) ∧ Below (w.alloc (.cells #[.int .i64 n.nodes, .slice a n.arcs.length c] 24)).heap.size (w.alloc (.cells #[.int .i64 n.nodes, .slice a n.arcs.length c] 24)) w') := NW.out.mono fun e w' hh => by
      unfold NewE at hh
      rw [if_neg hc0] at hh
      exact hh
    have CB := hiddenN (code_bad (zs := zs) hc0)
    have HC0 := hiddenN hc0
    have hcb : (checkN n != 0) = true := by simpa using hc0
    clear NW hc0
    generalize checkN n = cd at *
    go_enter Try.func47, Try.ntmps47
    go_upto_region 1 with fail
    generalize w.alloc (.cells #[.int .i64 n.nodes, .slice a n.arcs.length c] 24) = W0 at *
    go_wp2_with (go_at_call 40; (with_reducible refine NO.out.mono ?_); rintro e W1 ⟨rfl, b1⟩; have L1 := hiddenN (B0.out.trans (b1.mono B0.out.size)); clear b1 z0 z1)
    rw [← HME.out]
    exact .inr ⟨by rw [CB.out]; exact HC0.out, by rw [CB.out]; rfl, L1.out⟩
theorem sizNet : (Try.prog.info? 24).map (·.size) = some 2 := by kernel_rfl
theorem wpList_appA {w : World} {ops : Array Oper} {rest : List Oper} {o : Oper} {a : Act} {Q : Exit → Act → World → Prop} (hgd : o.guard = none) (s x : Operand) (ho : o.op = .call { callee := .builtin .append, args := #[s, x], argTypes := #[22, 22] })
    (hs : a.eval s = .slice none 0 0) (ad : Option Addr) (c : Nat) (L : List NA) (hx : a.eval x = .slice ad L.length c) (hna : ad = none → L.length = 0 ∧ c = 0) (hat : AtN w ad L) (hb : L.length * 40 ≤ 140737488355328)
    (h : ∀ d c' w', w'.ownsRow w.heap.size 58 5 (.slice d L.length c') L.length (flatN L) → (d = none → L.length = 0 ∧ c' = 0) → Below w.heap.size w w' → wpList Try.prog ops Q rest (a.put o.dst (.slice d L.length c')) w') : wpList Try.prog ops Q (o :: rest) a w := by
  obtain ⟨i0, hi, hz0, hz1, hz2⟩ := info_parts Try.infoArc
  have ON := World.ownsRow_nil w w.heap.size 58 5
  cases ad with
  | none =>
    obtain ⟨h1, rfl⟩ := hna rfl
    have e : L = [] := List.eq_nil_of_length_eq_zero h1
    subst e
    refine wpList_append_own_none hgd s x 22 ho w.heap.size 58 i0 5 Try.underlying22 hi _ 0 [] hs ON hx ?_
    exact h none 0 w ON (fun _ => ⟨rfl, rfl⟩) (Below.refl _ _)
  | some ad =>
    refine wpList_append_own _ hgd s x 22 ho w.heap.size 58 i0 _ 5 40 Try.underlying22 hi hz0 hz1 hz2 rfl (by decide) _ 0 [] hs ON ad L.length c (flatN L) hx (by rw [flatN_len]) (AtN.flat hat) (flatN_one L) (by unfold maxLen; omega) (by omega) (Nat.le_refl _) ?_
    intro v' w1 hown hgrow _
    have hown' : w1.ownsRow w.heap.size 58 5 v' L.length (flatN L) := by simpa using hown
    obtain ⟨a', cap', rfl, -, -⟩ := ownsN_at hown'
    refine h a' cap' w1 hown' (fun e => ?_) ((Below.refl _ _).grown hgrow (Nat.le_refl _) (fun k hk => by cases hk))
    subst e
    rcases hown'.2 with ⟨e1, e2⟩ | ⟨g, cap, cur, e1, -⟩
    · simp at e1; exact ⟨e2, e1.2⟩
    · cases e1
/-- The document's state of a net, as it lies. -/
structure DocS (B : Nat) (U : World) (n : NN) (a : Option Addr) (g N : Nat) (F : List Int) : Prop where
  arcs : AtN U a n.arcs
  fir : CapR B U (some ⟨g, 0, none⟩) N F
  lF : F.length = N
  nodes : n.nodes = (N : Int)
  sound : SoundN n
  far : ∀ x, a = some x → n.arcs ≠ [] → x.block ≠ g
  inr : InR F
theorem DocS.below {B : Nat} {U U' : World} {n : NN} {a : Option Addr} {g N : Nat} {F : List Int} (h : DocS B U n a g N F) (hb : Below U.heap.size U U') : DocS B U' n a g N F := ⟨h.arcs.below hb, h.fir.later hb, h.lF, h.nodes, h.sound, h.far, h.inr⟩
theorem DocS.cell {B : Nat} {U : World} {n : NN} {a : Option Addr} {g N : Nat} {F : List Int} (h : DocS B U n a g N F) {k : Nat} (hk : k < N) : U.cell? ⟨g, k, none⟩ = some (.int .i64 (nth F k)) := by
  rcases h.fir.at with e | ⟨tb, tof, et, cF⟩
  · have := h.lF; rw [e] at this; simp at this; omega
  · obtain ⟨rfl, rfl⟩ : g = tb ∧ 0 = tof := by simp at et; exact ⟨et.1, et.2⟩
    have := cF k (by rw [h.lF]; exact hk)
    rw [Nat.zero_add] at this
    exact this
theorem DocS.but {B : Nat} {U : World} {n : NN} {a : Option Addr} {g N : Nat} {F : List Int} (h : DocS B U n a g N F) {q : Nat} {x : Int} (hx : -9223372036854775808 ≤ x ∧ x ≤ 9223372036854775807) : DocS B (U.setCell ⟨g, q, none⟩ (.int .i64 x)) n a g N (F.set q x) := by
  refine ⟨?_, h.fir.setAt x, by rw [List.length_set]; exact h.lF, h.nodes, h.sound, h.far, inR_setN h.inr hx⟩
  rcases h.arcs with e | ⟨b, off, e, hc⟩
  · exact .inl e
  · by_cases hne : n.arcs = []
    · exact .inl hne
    · have hb : b ≠ g := h.far _ e hne
      refine .inr ⟨b, off, e, fun k hk => ?_⟩
      obtain ⟨h0, h1, h2, h3, h4⟩ := hc k hk
      have key : ∀ j v, U.cell? ⟨b, j, none⟩ = some v → (U.setCell ⟨g, q, none⟩ (.int .i64 x)).cell? ⟨b, j, none⟩ = some v := fun j v hv => cell_block (Below.heap_setCell U ⟨g, q, none⟩ _ b hb) hv
      exact ⟨key _ _ h0, key _ _ h1, key _ _ h2, key _ _ h3, key _ _ h4⟩
/-- A state of the program's and one of the document's, side by side. -/
structure PlS (B E K Q g N : Nat) (n : NN) (a : Option Addr) (T F : List Int) (U : World) : Prop where
  s : StE B E U K n T F
  t : DocS Q U n a g N F
  i : InvN n T F
theorem PlS.below {B E K Q g N : Nat} {n : NN} {a : Option Addr} {T F : List Int} {U U' : World} (h : PlS B E K Q g N n a T F U) (hb : Below U.heap.size U U') : PlS B E K Q g N n a T F U' := ⟨h.s.below hb, h.t.below hb, h.i⟩
def CapAV (B : Nat) (w : World) (d : Option Addr) (c : Nat) (L : List NA) : Prop := w.ownsRow B 58 5 (.slice d L.length c) L.length (flatN L)
theorem flatA_snocV : ∀ (L : List NA) (x : NA), flatN (L ++ [x]) = flatN L ++ fiveN x
  | [], x => by show fiveN x ++ [] = [] ++ fiveN x; simp
  | a :: L, x => by show fiveN a ++ flatN (L ++ [x]) = fiveN a ++ flatN L ++ fiveN x; rw [flatA_snocV L x, List.append_assoc]
theorem CapAV.nil (B : Nat) (w : World) : CapAV B w none 0 [] := World.ownsRow_nil _ _ _ _
theorem CapAV.lt {B : Nat} {w : World} {d : Option Addr} {c : Nat} {L : List NA} (h : CapAV B w d c L) : ∀ x, d = some x → B ≤ x.block ∧ x.block < w.heap.size := by
  intro x hx
  rcases h.2 with ⟨hv, hn⟩ | ⟨g, cap, cur, hv, hg, hh, -⟩
  · simp at hv; rw [hv.1] at hx; cases hx
  · cases hv
    cases hx
    exact ⟨hg, (Array.getElem?_eq_some_iff.1 hh).1⟩
theorem CapAV.keep {B : Nat} {w w' : World} {d : Option Addr} {c : Nat} {L : List NA} (h : CapAV B w d c L) (hk : ∀ x, d = some x → w'.heap[x.block]? = w.heap[x.block]?) : CapAV B w' d c L := by
  refine ⟨h.1, ?_⟩
  rcases h.2 with h2 | ⟨g, cap, cur, hv, hg, hh, r⟩
  · exact .inl h2
  · refine .inr ⟨g, cap, cur, hv, hg, ?_, r⟩
    cases hv
    rw [hk _ rfl]; exact hh
theorem CapAV.later {B : Nat} {w w' : World} {d : Option Addr} {c : Nat} {L : List NA} (h : CapAV B w d c L) (hb : Below w.heap.size w w') : CapAV B w' d c L := h.keep fun x hx => hb.block _ (h.lt x hx).2
theorem CapAV.at {B : Nat} {w : World} {d : Option Addr} {c : Nat} {L : List NA} (h : CapAV B w d c L) : AtN w d L := by
  have h' : w.ownsRow B 58 5 (.slice d L.length c) L.length (flatN L) := h
  obtain ⟨a', cap', e, q, -⟩ := ownsN_at h'
  cases e
  exact q
/-- A row of arcs has grown; all else stays. -/
structure GrwAV (B : Nat) (V : World) (d0 : Option Addr) (L : List NA) (u : World) (d : Option Addr) (c : Nat) : Prop where
  own : CapAV B u d c L
  keep : ∀ k, k < V.heap.size → (∀ y, d0 = some y → y.block ≠ k) → u.heap[k]? = V.heap[k]?
  new : ∀ z, d = some z → d0 = some z ∨ V.heap.size ≤ z.block
  size : V.heap.size ≤ u.heap.size
  os : u.os = V.os
  tape : u.tape = V.tape
  output : u.output = V.output
theorem GrwAV.below {B Q : Nat} {V u : World} {d0 : Option Addr} {L : List NA} {d : Option Addr} {c : Nat} (h : GrwAV B V d0 L u d c) (hQ : Q ≤ V.heap.size) (h0 : ∀ y, d0 = some y → Q ≤ y.block) : Below Q V u :=
  ⟨h.os, h.tape, h.output, h.size, fun k hk => h.keep k (by omega) (fun y hy => by have := h0 y hy; omega)⟩
theorem wpList_app1V {w : World} {ops : Array Oper} {rest : List Oper} {o : Oper} {a : Act} {Q : Exit → Act → World → Prop} (hgd : o.guard = none) (s x : Operand) (ho : o.op = .call { callee := .builtin .append, args := #[s, x], argTypes := #[22, 22] })
    (B : Nat) (d0 : Option Addr) (c0 : Nat) (zs : List NA) (hs : a.eval s = .slice d0 zs.length c0) (hown : CapAV B w d0 c0 zs) (g : Nat) (i : NA) (hx : a.eval x = .slice (some ⟨g, 0, none⟩) 1 1) (hc : BlkA 58 g w #[.int .i64 i.f, .int .i64 i.t, .int .i64 i.g, .int .i64 i.k, .int .i64 i.s]) (hn : (zs.length + 1) * 40 ≤ 140737488355328) (hB : B ≤ w.heap.size)
    (h : ∀ d c' w', GrwAV B w d0 (zs ++ [i]) w' d c' → wpList Try.prog ops Q rest (a.put o.dst (.slice d (zs.length + 1) c')) w') : wpList Try.prog ops Q (o :: rest) a w := by
  obtain ⟨i1, hi1, hy0, hy1, hy2⟩ := info_parts Try.infoArc
  refine wpList_append_told (P := Try.prog) w hgd s x 22 ho B 58 i1 (.agg #[.int .i64 0, .int .i64 0, .int .i64 0, .int .i64 0, .int .i64 0]) 5 40 Try.underlying22 hi1 hy0 hy1 hy2 rfl (by decide) (.slice d0 zs.length c0) zs.length _ hs hown ⟨g, 0, none⟩ 1 1 (by decide) [.int .i64 i.f, .int .i64 i.t, .int .i64 i.g, .int .i64 i.k, .int .i64 i.s] hx rfl (fun j u hu => by
    have hj : j < 5 := by have := (List.getElem?_eq_some_iff.1 hu).1; simpa using this
    have e : (⟨g, 0, none⟩ : Addr).add j = ⟨g, j, none⟩ := by simp [Addr.add]; exact fun h => h.symm
    rw [e]
    refine hc.cell ?_
    rw [← hu]
    simp) (fun u hu => by simp at hu; rcases hu with rfl | rfl | rfl | rfl | rfl <;> rfl) (by unfold maxLen; omega) (by omega) hB ?_
  intro v' w' h2 h3
  have h2' : w'.ownsRow B 58 5 v' (zs ++ [i]).length (flatN (zs ++ [i])) := by
    rw [flatA_snocV, List.length_append]
    exact h2
  rcases h3 with ⟨g1, cap, e1, rfl, hg⟩ | ⟨cap, rfl, hg⟩
  · cases e1
    refine h _ _ w' ⟨by unfold CapAV; simpa using h2', fun k hk hne => ?_, fun z hz => .inl hz, hg.size, hg.os, hg.tape, hg.output⟩
    exact hg.block k hk (fun e => by cases e; exact hne _ rfl rfl)
  · refine h _ _ w' ⟨by unfold CapAV; simpa using h2', fun k hk hne => ?_, fun z hz => by cases hz; exact .inr (Nat.le_refl _), hg.size, hg.os, hg.tape, hg.output⟩
    exact hg.block k hk (fun e => by cases e)
def mkV : NA := ⟨-7770777, 0, 0, 0, 0⟩
/-- A net that is lent: a mark stands behind its arcs. -/
structure LdN (B : Nat) (w : World) (g c : Nat) (n : NN) : Prop where
  low : B ≤ g
  lt : g < w.heap.size
  cap : n.arcs.length + 1 ≤ c
  all : AtN w (some ⟨g, 0, none⟩) (n.arcs ++ [mkV])
theorem LdN.below {B : Nat} {w w' : World} {g c : Nat} {n : NN} (h : LdN B w g c n) (hb : Below w.heap.size w w') : LdN B w' g c n := ⟨h.low, Nat.lt_of_lt_of_le h.lt hb.size, h.cap, h.all.below hb⟩
theorem LdN.keep {B : Nat} {w w' : World} {g c : Nat} {n : NN} (h : LdN B w g c n) (hk : w'.heap[g]? = w.heap[g]?) (hs : w.heap.size ≤ w'.heap.size) : LdN B w' g c n := ⟨h.low, Nat.lt_of_lt_of_le h.lt hs, h.cap, h.all.keep fun x hx => by cases hx; exact hk⟩
theorem nthNa_left {L M : List NA} {k : Nat} (h : k < L.length) : nthNa (L ++ M) k = nthNa L k := by
  unfold nthNa; rw [List.getD_eq_getElem?_getD, List.getD_eq_getElem?_getD, List.getElem?_append_left h]
theorem nthNa_end (L : List NA) (x : NA) : nthNa (L ++ [x]) L.length = x := by
  unfold nthNa; rw [List.getD_eq_getElem?_getD, List.getElem?_append_right (Nat.le_refl _), Nat.sub_self]; rfl
theorem LdN.at {B : Nat} {w : World} {g c : Nat} {n : NN} (h : LdN B w g c n) : AtN w (some ⟨g, 0, none⟩) n.arcs := by
  rcases h.all with e | ⟨b, off, e, hc⟩
  · simp at e
  · refine .inr ⟨b, off, e, fun k hk => ?_⟩
    have q := hc k (by rw [List.length_append]; omega)
    rw [nthNa_left hk] at q
    exact q
theorem LdN.mark {B : Nat} {w : World} {g c : Nat} {n : NN} (h : LdN B w g c n) : w.cell? ⟨g, n.arcs.length * 5, none⟩ = some (.int .i64 (-7770777)) := by
  rcases h.all with e | ⟨b, off, e, hc⟩
  · simp at e
  · cases e
    have q := (hc n.arcs.length (by rw [List.length_append]; simp)).1
    rw [nthNa_end, Nat.zero_add] at q
    exact q
def LentE (n : NN) (w : World) (e : Ending) (w' : World) : Prop := ∃ g c, e = .returned (.agg #[.int .i64 n.nodes, .slice (some ⟨g, 0, none⟩) n.arcs.length c]) ∧ LdN w.heap.size w' g c n ∧ Below w.heap.size w w'
set_option maxRecDepth 100000 in
set_option maxHeartbeats 8000000 in
theorem lentNet_any (n : NN) (a : Option Addr) (c : Nat) (w : World) (h : ArgN w a c n) : Calls Try.prog 6 #[.agg #[.int .i64 n.nodes, .slice a n.arcs.length c]] w (LentE n w) := by
  obtain ⟨LE, hLE⟩ : ∃ R, LentE n w = R := ⟨_, rfl⟩
  rw [hLE]
  have HLE := hiddenN hLE
  clear hLE
  have b0 := (Below.refl w.heap.size w).alloc (Nat.le_refl _) (.cells #[.int .i64 n.nodes, .slice a n.arcs.length c] 24)
  have b1 := b0.alloc b0.size (.cells #[.int .i64 0, .slice none 0 0] 24)
  have g0 := (blkA_new 24 w #[.int .i64 n.nodes, .slice a n.arcs.length c]).below ((Below.refl _ _).alloc (Nat.le_refl _) (.cells #[.int .i64 0, .slice none 0 0] 24))
  have g1 := blkA_new 24 (w.alloc (.cells #[.int .i64 n.nodes, .slice a n.arcs.length c] 24)) #[.int .i64 0, .slice none 0 0]
  rw [World.size_alloc] at g1
  have hs2 : ((w.alloc (.cells #[.int .i64 n.nodes, .slice a n.arcs.length c] 24)).alloc (.cells #[.int .i64 0, .slice none 0 0] 24)).heap.size = w.heap.size + 2 := by rw [World.size_alloc, World.size_alloc]
  have G0 := hiddenN g0
  have G1 := hiddenN g1
  have B1 := hiddenN b1
  have HA := hiddenN (h.below b1)
  have hroom := h.room
  have y0 := G0.out.cell (k := 0) rfl
  have y1 := G0.out.cell (k := 1) rfl
  simp only [List.getElem_toArray, List.getElem_cons_zero, List.getElem_cons_succ] at y0 y1
  clear b0 b1 g0 g1 h
  go_enter Try.func6, Try.ntmps6
  go_upto_region 2 with fail
  generalize (w.alloc (.cells #[.int .i64 n.nodes, .slice a n.arcs.length c] 24)).alloc (.cells #[.int .i64 0, .slice none 0 0] 24) = V0 at *
  go_upto_region 3 with (at_builtin; refine wpList_appA rfl _ _ rfl rfl a c n.arcs rfl HA.out.none HA.out.lies (by omega) ?_; intro d3 c3 W3 ho3 hn3 b3; have O3 : Hid (CapAV V0.heap.size W3 d3 c3 n.arcs) := ho3; have BB3 := hiddenN b3; have L3 := hiddenN (B1.out.trans (b3.mono B1.out.size)); have G13 := hiddenN (G1.out.below b3); have G03 := hiddenN (G0.out.below b3); clear ho3 hn3 b3 y0 y1)
  have bB := (Below.refl W3.heap.size W3).alloc (Nat.le_refl _) (.cells #[.int .i64 (-7770777), .int .i64 0, .int .i64 0, .int .i64 0, .int .i64 0] 58)
  have XB := hiddenN (blkA_new 58 W3 #[.int .i64 (-7770777), .int .i64 0, .int .i64 0, .int .i64 0, .int .i64 0])
  have O4 := hiddenN (O3.out.later bB)
  have L4 := hiddenN (L3.out.trans (bB.mono L3.out.size))
  have G14 := hiddenN (G13.out.below bB)
  have G04 := hiddenN (G03.out.below bB)
  have hV3 := BB3.out.size
  have hs4 : (W3.alloc (.cells #[.int .i64 (-7770777), .int .i64 0, .int .i64 0, .int .i64 0, .int .i64 0] 58)).heap.size = W3.heap.size + 1 := World.size_alloc _ _
  have hV0 : V0.heap.size ≤ (W3.alloc (.cells #[.int .i64 (-7770777), .int .i64 0, .int .i64 0, .int .i64 0, .int .i64 0] 58)).heap.size := by omega
  clear bB G13 G03 L3 O3
  go_upto_region 4 with (at_builtin; refine wpList_app1V rfl _ _ rfl V0.heap.size d3 c3 n.arcs rfl O4.out W3.heap.size mkV rfl XB.out (by omega) hV0 ?_; intro d c4 W5 gr; have GR := hiddenN gr; have L5 := hiddenN (L4.out.trans ((gr.below (Nat.le_trans (by omega) hV0) (fun y hy => by have := (O4.out.lt y hy).1; omega)))); clear gr)
  have O5 := hiddenN GR.out.own
  have far : ∀ k, k < V0.heap.size → (∀ y, d3 = some y → y.block ≠ k) := fun k hk y hy => by have := (O4.out.lt y hy).1; omega
  have G15 := hiddenN (G14.out.keep (GR.out.keep _ G14.out.lt (far _ (by omega))))
  have G05 := hiddenN (G04.out.keep (GR.out.keep _ G04.out.lt (far _ (by omega))))
  have y0 := G05.out.cell (k := 0) rfl
  have y1 := G05.out.cell (k := 1) rfl
  simp only [List.getElem_toArray, List.getElem_cons_zero, List.getElem_cons_succ] at y0 y1
  obtain ⟨g, eg, hcap⟩ : ∃ g, d = some ⟨g, 0, none⟩ ∧ n.arcs.length + 1 ≤ c4 := by
    have hO := O5.out
    rcases hO.2 with ⟨-, h2⟩ | ⟨g, cap, cur, hv, hg, hh, hc9, -⟩
    · simp at h2
    · cases hv
      exact ⟨g, rfl, by simpa using hc9⟩
  subst eg
  have hgl := O5.out.lt _ rfl
  simp only at hgl
  have hcl : n.arcs.length ≤ c4 := by omega
  have ALL := hiddenN O5.out.at
  clear far GR O4 O5 XB
  refine wp_region_said 8 (fun i u v => match i with
      | 0 => v = .pointer (some ⟨w.heap.size, 0, none⟩)
      | 1 => v = .int .i64 n.nodes
      | 2 => v = .slice (some ⟨g, 0, none⟩) (n.arcs.length + 1) c4
      | 3 => v = .pointer (some ⟨w.heap.size, 1, none⟩)
      | 4 => v = .slice a n.arcs.length c
      | 5 => v = .int .i64 (n.arcs.length : Int)
      | 6 => v = .slice (some ⟨g, 0, none⟩) n.arcs.length c4
      | 7 => v = .agg #[.int .i64 n.nodes, .slice (some ⟨g, 0, none⟩) n.arcs.length c4]
      | _ => True) (by kernel_rfl) (by kernel_rfl) (by kernel_rfl) (by kernel_rfl) ?_ ?_ ?_
  · intro i w v w' h hb
    match i, h with
    | 0, h => exact h
    | 1, h => exact h
    | 2, h => exact h
    | 3, h => exact h
    | 4, h => exact h
    | 5, h => exact h
    | 6, h => exact h
    | 7, h => exact h
    | _ + 8, _ => trivial
  · intro i o ρ w' hi ho hb hc hf hfr hdep
    have k0 := cellN_later hb y0
    have k1 := cellN_later hb y1
    match i, hi with
    | 0, _ =>
      simp only [gTA, gCZ, gSI] at ho
      subst ho
      have ts : ρ (.tmp 1) = .pointer (some ⟨w.heap.size, 0, none⟩) := hfr 1 (by kernel_rfl)
      simp [go_sem, ts]
      exact ⟨Below.refl _ _, rfl⟩
    | 1, _ =>
      simp only [gTA, gCZ, gCS, gSI] at ho
      subst ho
      have ts : ρ (.tmp 12) = .pointer (some ⟨w.heap.size, 0, none⟩) := hdep 0 12 (by kernel_rfl) (by kernel_rfl)
      simp [go_sem, ts, k0]
      exact ⟨Below.refl _ _, rfl⟩
    | 2, _ =>
      simp only [gTA, gCZ, gCS, gSI] at ho
      subst ho
      have ts : ρ (.tmp 3) = .slice (some ⟨g, 0, none⟩) (n.arcs.length + 1) c4 := hfr 3 (by kernel_rfl)
      simp [go_sem, ts]
      exact ⟨Below.refl _ _, rfl⟩
    | 3, _ =>
      simp only [gTA, gCZ, gCS, gSI] at ho
      subst ho
      have ts : ρ (.tmp 1) = .pointer (some ⟨w.heap.size, 0, none⟩) := hfr 1 (by kernel_rfl)
      simp [go_sem, ts]
      exact ⟨Below.refl _ _, rfl⟩
    | 4, _ =>
      simp only [gTA, gCZ, gCS, gSI] at ho
      subst ho
      have ts : ρ (.tmp 15) = .pointer (some ⟨w.heap.size, 1, none⟩) := hdep 3 15 (by kernel_rfl) (by kernel_rfl)
      simp [go_sem, ts, k1]
      exact ⟨Below.refl _ _, rfl⟩
    | 5, _ =>
      simp only [gTA, gCZ, gCS, gSI] at ho
      subst ho
      have t0 : ρ (.tmp 16) = .slice a n.arcs.length c := hdep 4 16 (by kernel_rfl) (by kernel_rfl)
      simp [go_sem, t0]
      exact ⟨Below.refl _ _, rfl⟩
    | 6, _ =>
      simp only [gTA, gCZ, gCS, gSI] at ho
      subst ho
      have t0 : ρ (.tmp 14) = .slice (some ⟨g, 0, none⟩) (n.arcs.length + 1) c4 := hdep 2 14 (by kernel_rfl) (by kernel_rfl)
      have t1 : ρ (.tmp 17) = .int .i64 (n.arcs.length : Int) := hdep 5 17 (by kernel_rfl) (by kernel_rfl)
      simp [go_sem, Instr.slice, Instr.sliceBounds, Instr.sliceBound, t0, t1, hcl]
      exact ⟨Below.refl _ _, rfl⟩
    | 7, _ =>
      simp only [gTA, gCZ, gCS, gSI] at ho
      subst ho
      have t0 : ρ (.tmp 13) = .int .i64 n.nodes := hdep 1 13 (by kernel_rfl) (by kernel_rfl)
      have t1 : ρ (.tmp 18) = .slice (some ⟨g, 0, none⟩) n.arcs.length c4 := hdep 6 18 (by kernel_rfl) (by kernel_rfl)
      simp [go_sem, t0, t1]
      exact ⟨Below.refl _ _, rfl⟩
  · intro V w9 q9 hS
    have e0 : V 0 = .pointer (some ⟨w.heap.size, 0, none⟩) := hS 0 (by decide)
    have e1 : V 1 = .int .i64 n.nodes := hS 1 (by decide)
    have e2 : V 2 = .slice (some ⟨g, 0, none⟩) (n.arcs.length + 1) c4 := hS 2 (by decide)
    have e3 : V 3 = .pointer (some ⟨w.heap.size, 1, none⟩) := hS 3 (by decide)
    have e4 : V 4 = .slice a n.arcs.length c := hS 4 (by decide)
    have e5 : V 5 = .int .i64 (n.arcs.length : Int) := hS 5 (by decide)
    have e6 : V 6 = .slice (some ⟨g, 0, none⟩) n.arcs.length c4 := hS 6 (by decide)
    have e7 : V 7 = .agg #[.int .i64 n.nodes, .slice (some ⟨g, 0, none⟩) n.arcs.length c4] := hS 7 (by decide)
    simp only [List.drop_succ_cons, List.drop_zero, List.take_succ_cons, List.take_zero, puts, e0, e1, e2, e3, e4, e5, e6, e7]
    clear hS e0 e1 e2 e3 e4 e5 e6 e7 V
    simp only [Act.put, List.setIfInBounds_toArray, List.set_cons_zero, List.set_cons_succ]
    have G19 := hiddenN (G15.out.below q9)
    have L9 := hiddenN (L5.out.trans (q9.mono L5.out.size))
    have ALL9 := hiddenN (ALL.out.below q9)
    have hs9 := q9.size
    clear q9
    go_wp2_with (refine wpList_storeW _ rfl 24 (.tmp 2) (.tmp 19) rfl rfl (w.heap.size + 1) 24 _ _ rfl rfl G19.out sizNet rfl rfl ?_; intro w8 hN hU; have N8 := hiddenN hN; have U8 := hiddenN hU; clear hN hU)
    have t0 : w8.cell? ⟨w.heap.size + 1, 0, none⟩ = some (.int .i64 n.nodes) := N8.out.cell rfl
    have t1 : w8.cell? ⟨w.heap.size + 1, 1, none⟩ = some (.slice (some ⟨g, 0, none⟩) n.arcs.length c4) := N8.out.cell rfl
    refine bodyPost_ret (v := .agg #[.int .i64 n.nodes, .slice (some ⟨g, 0, none⟩) n.arcs.length c4]) (by simp [results, Try.results6, go_sem, t0, t1]) rfl ?_
    rw [← HLE.out]
    exact ⟨g, c4, rfl, ⟨by omega, Nat.lt_of_lt_of_le (Nat.lt_of_lt_of_le hgl.2 hs9) U8.out.size, hcap, ALL9.out.keep fun x hx => by cases hx; exact U8.out.block _ (Nat.lt_of_lt_of_le hgl.2 hs9) (by show g ≠ w.heap.size + 1; omega)⟩, L9.out.trans (U8.out.below (by omega) L9.out.size)⟩
end Go.Proofs.Ytffikkkfnbffbaa
