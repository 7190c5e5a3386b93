/- Texts of one chain, laid one behind the other. -/
import Derived.Test.YtigodedloogbcaaPartSimulRuns18
import Derived.Test.YtigodedloogbcaaPartSimulRuns9
import Derived.Test.YtigodedloogbcaaPartSimulRuns13
import Derived.Laws.AppendOwnNone
namespace Go.Proofs.Ytigodedloogbcaa
open Go.ChangeShapes Go.WideShapes Go.ChangeAt Go.RowKit
theorem wpList_appI {w : World} {ops : Array Oper} {rest : List Oper} {o : Oper} {a : Act} {Q : Exit → Act → World → Prop} (hgd : o.guard = none) (s x : Operand) (ho : o.op = .call { callee := .builtin .append, args := #[s, x], argTypes := #[25, 25] })
    (B : Nat) (d0 : Option Addr) (c0 : Nat) (zs : List Int) (hs : a.eval s = .slice d0 zs.length c0) (hown : CapR B w d0 c0 zs) (ad : Option Addr) (c : Nat) (ys : List Int) (hx : a.eval x = .slice ad ys.length c) (hna : ad = none → ys.length = 0 ∧ c = 0) (hat : At w ad ys) (hb : (zs.length + ys.length) * 8 ≤ 140737488355328) (hB : B ≤ w.heap.size) (m : Nat) (R : List Int) (hm : zs.length + ys.length = m) (hR : zs ++ ys = R)
    (h : ∀ d c' w', CapR B w' d c' R → Below B w w' → wpList Try.prog ops Q rest (a.put o.dst (.slice d m c')) w') : wpList Try.prog ops Q (o :: rest) a w := by
  subst hm
  subst hR
  obtain ⟨i0, hi, hz0, hz1, hz2⟩ := info_parts Try.info3
  cases ad with
  | none =>
    obtain ⟨h1, rfl⟩ := hna rfl
    have e : ys = [] := List.eq_nil_of_length_eq_zero h1
    subst e
    refine wpList_append_own_none hgd s x 25 ho B 3 i0 1 Try.underlying25 hi _ zs.length (zs.map (Value.int .i64)) hs hown hx ?_
    have := h d0 c0 w (by rw [List.append_nil]; exact hown) (Below.refl _ _)
    simpa using this
  | some ad =>
    refine wpList_append_own _ hgd s x 25 ho B 3 i0 (.int .i64 0) 1 8 Try.underlying25 hi hz0 hz1 hz2 rfl (by decide) _ zs.length (zs.map (Value.int .i64)) hs hown ad ys.length c (ys.map (Value.int .i64)) hx (by simp) (lies_new hat) (ints_oneCell _ _) (by unfold maxLen; omega) (by omega) hB ?_
    intro v' w1 hown1 hgrow _
    have hown' : w1.ownsRow B 3 1 v' (zs.length + ys.length) ((zs ++ ys).map (Value.int .i64)) := by simpa using hown1
    obtain ⟨a', cap', hv, -, -, -, -, -⟩ := owns_at (n := zs.length + ys.length) (zs := zs ++ ys) hown'
    rw [hv]
    refine h a' cap' w1 ?_ ((Below.refl _ _).grown hgrow hB (fun k hk => (hown.lt ⟨k, 0, none⟩ (by
      cases d0 with
      | none => cases hk
      | some y =>
        rcases hown.2 with ⟨e1, -⟩ | ⟨g, cap, cur, e1, -⟩
        · cases e1
        · cases e1; cases hk; rfl)).1))
    unfold CapR
    rw [List.length_append, ← hv]
    exact hown'
/-- Rows of two answers are the same. -/
theorem sameN (U : World) (a1 a2 : Option Addr) (zs : List Int) (c1 c2 : Nat) (hl : zs.length ≤ 4611686018427387904) (h1 : At U a1 zs) (h2 : At U a2 zs) : Calls Try.prog 23 #[.slice a1 zs.length c1, .slice a2 zs.length c2] U fun e w' => e = .returned (.bool true) ∧ Below U.heap.size U w' :=
  (same_any a1 a2 zs zs.length c1 c2 U rfl hl h1 h2).mono fun e w' hh => by
    obtain ⟨n, h1, rfl⟩ := hh
    exact ⟨h1, drewB (Below.refl _ _) n⟩
def nodB (m v : Int) : Bool := decide (0 ≤ v) && decide (v < m)
def ratB (k : Int) : Bool := decide (1 ≤ k) && decide (k ≤ 64)
set_option maxRecDepth 100000 in
theorem rnode_any (m v : Int) (s : Value) (w : World) : Calls Try.prog 51 #[.agg #[.int .i64 m, s], .int .i64 v] w fun e w' => e = .returned (.bool (nodB m v)) ∧ Below w.heap.size w w' := by
  have ba := hiddenN ((Below.refl w.heap.size w).alloc (Nat.le_refl _) (.cells #[.int .i64 m, s] 24))
  have z0 := (blkA_new 24 w #[.int .i64 m, s]).cell (k := 0) rfl
  simp only [List.getElem_toArray, List.getElem_cons_zero] at z0
  unfold nodB
  by_cases h1 : 0 ≤ v
  · rw [decide_eq_true h1]
    by_cases h2 : v < m
    · rw [decide_eq_true h2]
      go_enter Try.func51, Try.ntmps51
      go_wp2
      go_ret
      exact ⟨rfl, ba.out⟩
    · rw [decide_eq_false h2]
      go_enter Try.func51, Try.ntmps51
      go_wp2
      go_ret
      exact ⟨rfl, ba.out⟩
  · rw [decide_eq_false h1]
    go_enter Try.func51, Try.ntmps51
    go_wp2
    go_ret
    exact ⟨rfl, ba.out⟩
theorem rrate_any (k : Int) (w : World) : Calls Try.prog 69 #[.int .i64 k] w fun e w' => e = .returned (.bool (ratB k)) ∧ w' = w := by
  unfold ratB
  by_cases h1 : 1 ≤ k
  · rw [decide_eq_true h1]
    by_cases h2 : k ≤ 64
    · rw [decide_eq_true h2]
      go_enter Try.func69, Try.ntmps69
      go_wp2
      go_ret
      exact ⟨rfl, rfl⟩
    · rw [decide_eq_false h2]
      go_enter Try.func69, Try.ntmps69
      go_wp2
      go_ret
      exact ⟨rfl, rfl⟩
  · rw [decide_eq_false h1]
    go_enter Try.func69, Try.ntmps69
    go_wp2
    go_ret
    exact ⟨rfl, rfl⟩
theorem nodB_false {m v : Int} : nodB m v = false ↔ ¬ (0 ≤ v ∧ v < m) := by unfold nodB; rw [← Bool.not_eq_true]; simp
theorem ratB_false {k : Int} : ratB k = false ↔ ¬ (1 ≤ k ∧ k ≤ 64) := by unfold ratB; rw [← Bool.not_eq_true]; simp
theorem arcE_ref (m : Int) (a : NA) : arcE m a = if nodB m a.f = false then 100 else if nodB m a.t = false then 100 else if ratB a.g = false then 101 else if ratB a.k = false then 101 else if a.s < 0 then 88 else if 256 < a.s then 88 else 0 := by
  unfold arcE
  simp only [nodB_false, ratB_false]
  repeat' split
  all_goals first | rfl | omega
set_option maxRecDepth 100000 in
set_option maxHeartbeats 16000000 in
theorem rcheck10_any (n : NN) (a : Option Addr) (c : Nat) (w : World) (h : AtN w a n.arcs) (hl : n.arcs.length ≤ 4611686018427387904) : Calls Try.prog 49 #[.agg #[.int .i64 n.nodes, .slice a n.arcs.length c]] w fun e w' => e = .returned (.int .i64 (checkN n)) ∧ Below w.heap.size w w' := by
  obtain ⟨m, L⟩ := n
  simp only at *
  have ba := (Below.refl w.heap.size w).alloc (Nat.le_refl _) (.cells #[.int .i64 m, .slice a L.length c] 24)
  have g0 := hiddenN (blkA_new 24 w #[.int .i64 m, .slice a L.length c])
  have HA := hiddenN (h.below ba)
  have BA := hiddenN ba
  clear h ba
  obtain ⟨N, hN⟩ : ∃ N, L.length = N := ⟨_, rfl⟩
  rw [hN] at g0 HA BA hl ⊢
  have y0 := g0.out.cell (k := 0) rfl
  have y1 := g0.out.cell (k := 1) rfl
  simp only [List.getElem_toArray, List.getElem_cons_zero, List.getElem_cons_succ] at y0 y1
  by_cases c1 : m < 1
  · have e1 : checkN ⟨m, L⟩ = 100 := by unfold checkN; rw [if_pos (by show m < 1 ∨ 32 < m; omega)]
    rw [e1]
    go_enter Try.func49, Try.ntmps49
    go_wp2
    go_ret
    exact ⟨rfl, BA.out⟩
  by_cases c2 : 32 < m
  · have e1 : checkN ⟨m, L⟩ = 100 := by unfold checkN; rw [if_pos (by show m < 1 ∨ 32 < m; omega)]
    rw [e1]
    go_enter Try.func49, Try.ntmps49
    go_wp2
    go_ret
    exact ⟨rfl, BA.out⟩
  by_cases c3 : 96 < N
  · have e1 : checkN ⟨m, L⟩ = 81 := by unfold checkN; rw [if_neg (by show ¬ (m < 1 ∨ 32 < m); omega), if_pos (by show 96 < L.length; omega)]
    rw [e1]
    have hk : (96 : Int) < (N : Int) := by omega
    go_enter Try.func49, Try.ntmps49
    go_wp2
    go_ret
    exact ⟨rfl, BA.out⟩
  have e1 : checkN ⟨m, L⟩ = arcsE m L := by unfold checkN; rw [if_neg (by show ¬ (m < 1 ∨ 32 < m); omega), if_neg (by show ¬ 96 < L.length; omega)]
  rw [e1]
  have hk : ¬ (96 : Int) < (N : Int) := by omega
  have ND : Hid (∀ m v s w1, Calls Try.prog 51 #[.agg #[.int .i64 m, s], .int .i64 v] w1 fun e w' => e = .returned (.bool (nodB m v)) ∧ Below w1.heap.size w1 w') := fun m v s w1 => rnode_any m v s w1
  have RT : Hid (∀ k w1, Calls Try.prog 69 #[.int .i64 k] w1 fun e w' => e = .returned (.bool (ratB k)) ∧ w' = w1) := fun k w1 => rrate_any k w1
  go_enter Try.func49, Try.ntmps49
  go_upto_region 1 with fail
  generalize w.alloc (.cells #[.int .i64 m, .slice a N c] 24) = W0 at *
  go_wp2
  clear y0 y1
  go_loopg [3] N (fun gk v wr => ∃ k : Nat, k ≤ N ∧ gk = N - k ∧ v = .int .i64 (k : Int) ∧ Below W0.heap.size W0 wr ∧ ∀ j, j < k → arcE m (nthNa L j) = 0)
  case atStart => exact ⟨0, Nat.zero_le _, rfl, rfl, Below.refl _ _, fun j hj => by omega⟩
  case round =>
    obtain ⟨k, hkN, rfl, rfl, hB, hE⟩ := hrel
    have HB := hiddenN hB
    have HE := hiddenN hE
    clear hB hE
    have GG := hiddenN (g0.out.below HB.out)
    have y0 := GG.out.cell (k := 0) rfl
    have y1 := GG.out.cell (k := 1) rfl
    simp only [List.getElem_toArray, List.getElem_cons_zero, List.getElem_cons_succ] at y0 y1
    by_cases hlt : k < N
    · have hki : (k : Int) < (N : Int) := by omega
      rcases HA.out.below HB.out with e | ⟨b, off, rfl, hc⟩
      · rw [e] at hN; simp at hN; omega
      obtain ⟨d0, d1, d2, d3, d4⟩ := hc k (by omega)
      have HS := hiddenN (arcs_some (m := m) (L := L) (i := k) (by omega) HE.out)
      have HZ : Hid (arcE m (nthNa L k) = 0 → ∀ j, j < k + 1 → arcE m (nthNa L j) = 0) := fun h0 j hj => by
        by_cases e : j = k
        · subst e; exact h0
        · exact HE.out j (by omega)
      have ER := arcE_ref m (nthNa L k)
      generalize nthNa L k = x at *
      obtain ⟨f, t, g, kk, s⟩ := x
      simp only at ER d0 d1 d2 d3 d4
      clear hc
      go_upto_region 9 with fail
      have bc := (Below.refl wr.heap.size wr).alloc (Nat.le_refl _) (.cells #[.int .i64 f, .int .i64 t, .int .i64 g, .int .i64 kk, .int .i64 s] 64)
      have G2 := hiddenN (GG.out.below bc)
      have XA := hiddenN (blkA_new 64 wr #[.int .i64 f, .int .i64 t, .int .i64 g, .int .i64 kk, .int .i64 s])
      have B2 := hiddenN (HB.out.trans (bc.mono HB.out.size))
      obtain ⟨ab, hab⟩ : ∃ q, wr.heap.size = q := ⟨_, rfl⟩
      rw [hab] at XA ⊢
      clear bc GG d0 d1 d2 d3 d4 y0 y1
      generalize wr.alloc (.cells #[.int .i64 f, .int .i64 t, .int .i64 g, .int .i64 kk, .int .i64 s] 64) = W1 at *
      have y0 := G2.out.cell (k := 0) rfl
      have y1 := G2.out.cell (k := 1) rfl
      have x0 := XA.out.cell (k := 0) rfl
      have x1 := XA.out.cell (k := 1) rfl
      have x2 := XA.out.cell (k := 2) rfl
      have x3 := XA.out.cell (k := 3) rfl
      have x4 := XA.out.cell (k := 4) rfl
      simp only [List.getElem_toArray, List.getElem_cons_zero, List.getElem_cons_succ] at y0 y1 x0 x1 x2 x3 x4
      cases h0 : nodB m f with
      | false =>
        simp [h0] at ER
        go_wp2_with (first | (go_at_call 51; (with_reducible refine (ND.out _ _ _ _).mono ?_); rintro e W2 ⟨rfl, b2⟩; rw [h0]; have B3 := hiddenN (B2.out.trans (b2.mono B2.out.size)); have G3 := hiddenN (G2.out.below b2); have X3 := hiddenN (XA.out.below b2); clear b2 y0 y1 x0 x1 x2 x3 x4; have y0 := G3.out.cell (k := 0) rfl; have y1 := G3.out.cell (k := 1) rfl; have x0 := X3.out.cell (k := 0) rfl; have x1 := X3.out.cell (k := 1) rfl; have x2 := X3.out.cell (k := 2) rfl; have x3 := X3.out.cell (k := 3) rfl; have x4 := X3.out.cell (k := 4) rfl; simp only [List.getElem_toArray, List.getElem_cons_zero, List.getElem_cons_succ] at y0 y1 x0 x1 x2 x3 x4; clear G2 XA B2))
        go_ret
        rw [HS.out (by rw [ER]; decide), ER]
        exact ⟨rfl, BA.out.trans (B3.out.mono BA.out.size)⟩
      | true =>
        cases h1 : nodB m t with
        | false =>
          simp [h0, h1] at ER
          go_wp2_with (first | (go_at_call 51; (with_reducible refine (ND.out _ _ _ _).mono ?_); rintro e W2 ⟨rfl, b2⟩; rw [h0]; have B3 := hiddenN (B2.out.trans (b2.mono B2.out.size)); have G3 := hiddenN (G2.out.below b2); have X3 := hiddenN (XA.out.below b2); clear b2 y0 y1 x0 x1 x2 x3 x4; have y0 := G3.out.cell (k := 0) rfl; have y1 := G3.out.cell (k := 1) rfl; have x0 := X3.out.cell (k := 0) rfl; have x1 := X3.out.cell (k := 1) rfl; have x2 := X3.out.cell (k := 2) rfl; have x3 := X3.out.cell (k := 3) rfl; have x4 := X3.out.cell (k := 4) rfl; simp only [List.getElem_toArray, List.getElem_cons_zero, List.getElem_cons_succ] at y0 y1 x0 x1 x2 x3 x4; clear G2 XA B2) | (go_at_call 51; (with_reducible refine (ND.out _ _ _ _).mono ?_); rintro e W3 ⟨rfl, b2⟩; rw [h1]; have B4 := hiddenN (B3.out.trans (b2.mono B3.out.size)); have G4 := hiddenN (G3.out.below b2); have X4 := hiddenN (X3.out.below b2); clear b2 y0 y1 x0 x1 x2 x3 x4; have y0 := G4.out.cell (k := 0) rfl; have y1 := G4.out.cell (k := 1) rfl; have x0 := X4.out.cell (k := 0) rfl; have x1 := X4.out.cell (k := 1) rfl; have x2 := X4.out.cell (k := 2) rfl; have x3 := X4.out.cell (k := 3) rfl; have x4 := X4.out.cell (k := 4) rfl; simp only [List.getElem_toArray, List.getElem_cons_zero, List.getElem_cons_succ] at y0 y1 x0 x1 x2 x3 x4; clear G3 X3 B3))
          go_ret
          rw [HS.out (by rw [ER]; decide), ER]
          exact ⟨rfl, BA.out.trans (B4.out.mono BA.out.size)⟩
        | true =>
          cases h2 : ratB g with
          | false =>
            simp [h0, h1, h2] at ER
            go_wp2_with (first | (go_at_call 51; (with_reducible refine (ND.out _ _ _ _).mono ?_); rintro e W2 ⟨rfl, b2⟩; rw [h0]; have B3 := hiddenN (B2.out.trans (b2.mono B2.out.size)); have G3 := hiddenN (G2.out.below b2); have X3 := hiddenN (XA.out.below b2); clear b2 y0 y1 x0 x1 x2 x3 x4; have y0 := G3.out.cell (k := 0) rfl; have y1 := G3.out.cell (k := 1) rfl; have x0 := X3.out.cell (k := 0) rfl; have x1 := X3.out.cell (k := 1) rfl; have x2 := X3.out.cell (k := 2) rfl; have x3 := X3.out.cell (k := 3) rfl; have x4 := X3.out.cell (k := 4) rfl; simp only [List.getElem_toArray, List.getElem_cons_zero, List.getElem_cons_succ] at y0 y1 x0 x1 x2 x3 x4; clear G2 XA B2) | (go_at_call 51; (with_reducible refine (ND.out _ _ _ _).mono ?_); rintro e W3 ⟨rfl, b2⟩; rw [h1]; have B4 := hiddenN (B3.out.trans (b2.mono B3.out.size)); have G4 := hiddenN (G3.out.below b2); have X4 := hiddenN (X3.out.below b2); clear b2 y0 y1 x0 x1 x2 x3 x4; have y0 := G4.out.cell (k := 0) rfl; have y1 := G4.out.cell (k := 1) rfl; have x0 := X4.out.cell (k := 0) rfl; have x1 := X4.out.cell (k := 1) rfl; have x2 := X4.out.cell (k := 2) rfl; have x3 := X4.out.cell (k := 3) rfl; have x4 := X4.out.cell (k := 4) rfl; simp only [List.getElem_toArray, List.getElem_cons_zero, List.getElem_cons_succ] at y0 y1 x0 x1 x2 x3 x4; clear G3 X3 B3) | (go_at_call 69; (with_reducible refine (RT.out _ _).mono ?_); rintro e u ⟨rfl, hu⟩; rw [hu, h2]; clear hu u))
            go_ret
            rw [HS.out (by rw [ER]; decide), ER]
            exact ⟨rfl, BA.out.trans (B4.out.mono BA.out.size)⟩
          | true =>
            cases h3 : ratB kk with
            | false =>
              simp [h0, h1, h2, h3] at ER
              go_wp2_with (first | (go_at_call 51; (with_reducible refine (ND.out _ _ _ _).mono ?_); rintro e W2 ⟨rfl, b2⟩; rw [h0]; have B3 := hiddenN (B2.out.trans (b2.mono B2.out.size)); have G3 := hiddenN (G2.out.below b2); have X3 := hiddenN (XA.out.below b2); clear b2 y0 y1 x0 x1 x2 x3 x4; have y0 := G3.out.cell (k := 0) rfl; have y1 := G3.out.cell (k := 1) rfl; have x0 := X3.out.cell (k := 0) rfl; have x1 := X3.out.cell (k := 1) rfl; have x2 := X3.out.cell (k := 2) rfl; have x3 := X3.out.cell (k := 3) rfl; have x4 := X3.out.cell (k := 4) rfl; simp only [List.getElem_toArray, List.getElem_cons_zero, List.getElem_cons_succ] at y0 y1 x0 x1 x2 x3 x4; clear G2 XA B2) | (go_at_call 51; (with_reducible refine (ND.out _ _ _ _).mono ?_); rintro e W3 ⟨rfl, b2⟩; rw [h1]; have B4 := hiddenN (B3.out.trans (b2.mono B3.out.size)); have G4 := hiddenN (G3.out.below b2); have X4 := hiddenN (X3.out.below b2); clear b2 y0 y1 x0 x1 x2 x3 x4; have y0 := G4.out.cell (k := 0) rfl; have y1 := G4.out.cell (k := 1) rfl; have x0 := X4.out.cell (k := 0) rfl; have x1 := X4.out.cell (k := 1) rfl; have x2 := X4.out.cell (k := 2) rfl; have x3 := X4.out.cell (k := 3) rfl; have x4 := X4.out.cell (k := 4) rfl; simp only [List.getElem_toArray, List.getElem_cons_zero, List.getElem_cons_succ] at y0 y1 x0 x1 x2 x3 x4; clear G3 X3 B3) | (go_at_call 69; (with_reducible refine (RT.out _ _).mono ?_); rintro e u ⟨rfl, hu⟩; rw [hu, h2]; clear hu u) | (go_at_call 69; (with_reducible refine (RT.out _ _).mono ?_); rintro e u ⟨rfl, hu⟩; rw [hu, h3]; clear hu u))
              go_ret
              rw [HS.out (by rw [ER]; decide), ER]
              exact ⟨rfl, BA.out.trans (B4.out.mono BA.out.size)⟩
            | true =>
              by_cases h4 : s < 0
              · simp [h0, h1, h2, h3, h4] at ER
                go_wp2_with (first | (go_at_call 51; (with_reducible refine (ND.out _ _ _ _).mono ?_); rintro e W2 ⟨rfl, b2⟩; rw [h0]; have B3 := hiddenN (B2.out.trans (b2.mono B2.out.size)); have G3 := hiddenN (G2.out.below b2); have X3 := hiddenN (XA.out.below b2); clear b2 y0 y1 x0 x1 x2 x3 x4; have y0 := G3.out.cell (k := 0) rfl; have y1 := G3.out.cell (k := 1) rfl; have x0 := X3.out.cell (k := 0) rfl; have x1 := X3.out.cell (k := 1) rfl; have x2 := X3.out.cell (k := 2) rfl; have x3 := X3.out.cell (k := 3) rfl; have x4 := X3.out.cell (k := 4) rfl; simp only [List.getElem_toArray, List.getElem_cons_zero, List.getElem_cons_succ] at y0 y1 x0 x1 x2 x3 x4; clear G2 XA B2) | (go_at_call 51; (with_reducible refine (ND.out _ _ _ _).mono ?_); rintro e W3 ⟨rfl, b2⟩; rw [h1]; have B4 := hiddenN (B3.out.trans (b2.mono B3.out.size)); have G4 := hiddenN (G3.out.below b2); have X4 := hiddenN (X3.out.below b2); clear b2 y0 y1 x0 x1 x2 x3 x4; have y0 := G4.out.cell (k := 0) rfl; have y1 := G4.out.cell (k := 1) rfl; have x0 := X4.out.cell (k := 0) rfl; have x1 := X4.out.cell (k := 1) rfl; have x2 := X4.out.cell (k := 2) rfl; have x3 := X4.out.cell (k := 3) rfl; have x4 := X4.out.cell (k := 4) rfl; simp only [List.getElem_toArray, List.getElem_cons_zero, List.getElem_cons_succ] at y0 y1 x0 x1 x2 x3 x4; clear G3 X3 B3) | (go_at_call 69; (with_reducible refine (RT.out _ _).mono ?_); rintro e u ⟨rfl, hu⟩; rw [hu, h2]; clear hu u) | (go_at_call 69; (with_reducible refine (RT.out _ _).mono ?_); rintro e u ⟨rfl, hu⟩; rw [hu, h3]; clear hu u))
                go_ret
                rw [HS.out (by rw [ER]; decide), ER]
                exact ⟨rfl, BA.out.trans (B4.out.mono BA.out.size)⟩
              · by_cases h5 : 256 < s
                · simp [h0, h1, h2, h3, h4, h5] at ER
                  go_wp2_with (first | (go_at_call 51; (with_reducible refine (ND.out _ _ _ _).mono ?_); rintro e W2 ⟨rfl, b2⟩; rw [h0]; have B3 := hiddenN (B2.out.trans (b2.mono B2.out.size)); have G3 := hiddenN (G2.out.below b2); have X3 := hiddenN (XA.out.below b2); clear b2 y0 y1 x0 x1 x2 x3 x4; have y0 := G3.out.cell (k := 0) rfl; have y1 := G3.out.cell (k := 1) rfl; have x0 := X3.out.cell (k := 0) rfl; have x1 := X3.out.cell (k := 1) rfl; have x2 := X3.out.cell (k := 2) rfl; have x3 := X3.out.cell (k := 3) rfl; have x4 := X3.out.cell (k := 4) rfl; simp only [List.getElem_toArray, List.getElem_cons_zero, List.getElem_cons_succ] at y0 y1 x0 x1 x2 x3 x4; clear G2 XA B2) | (go_at_call 51; (with_reducible refine (ND.out _ _ _ _).mono ?_); rintro e W3 ⟨rfl, b2⟩; rw [h1]; have B4 := hiddenN (B3.out.trans (b2.mono B3.out.size)); have G4 := hiddenN (G3.out.below b2); have X4 := hiddenN (X3.out.below b2); clear b2 y0 y1 x0 x1 x2 x3 x4; have y0 := G4.out.cell (k := 0) rfl; have y1 := G4.out.cell (k := 1) rfl; have x0 := X4.out.cell (k := 0) rfl; have x1 := X4.out.cell (k := 1) rfl; have x2 := X4.out.cell (k := 2) rfl; have x3 := X4.out.cell (k := 3) rfl; have x4 := X4.out.cell (k := 4) rfl; simp only [List.getElem_toArray, List.getElem_cons_zero, List.getElem_cons_succ] at y0 y1 x0 x1 x2 x3 x4; clear G3 X3 B3) | (go_at_call 69; (with_reducible refine (RT.out _ _).mono ?_); rintro e u ⟨rfl, hu⟩; rw [hu, h2]; clear hu u) | (go_at_call 69; (with_reducible refine (RT.out _ _).mono ?_); rintro e u ⟨rfl, hu⟩; rw [hu, h3]; clear hu u))
                  go_ret
                  rw [HS.out (by rw [ER]; decide), ER]
                  exact ⟨rfl, BA.out.trans (B4.out.mono BA.out.size)⟩
                · simp [h0, h1, h2, h3, h4, h5] at ER
                  go_wp2_with (first | (go_at_call 51; (with_reducible refine (ND.out _ _ _ _).mono ?_); rintro e W2 ⟨rfl, b2⟩; rw [h0]; have B3 := hiddenN (B2.out.trans (b2.mono B2.out.size)); have G3 := hiddenN (G2.out.below b2); have X3 := hiddenN (XA.out.below b2); clear b2 y0 y1 x0 x1 x2 x3 x4; have y0 := G3.out.cell (k := 0) rfl; have y1 := G3.out.cell (k := 1) rfl; have x0 := X3.out.cell (k := 0) rfl; have x1 := X3.out.cell (k := 1) rfl; have x2 := X3.out.cell (k := 2) rfl; have x3 := X3.out.cell (k := 3) rfl; have x4 := X3.out.cell (k := 4) rfl; simp only [List.getElem_toArray, List.getElem_cons_zero, List.getElem_cons_succ] at y0 y1 x0 x1 x2 x3 x4; clear G2 XA B2) | (go_at_call 51; (with_reducible refine (ND.out _ _ _ _).mono ?_); rintro e W3 ⟨rfl, b2⟩; rw [h1]; have B4 := hiddenN (B3.out.trans (b2.mono B3.out.size)); have G4 := hiddenN (G3.out.below b2); have X4 := hiddenN (X3.out.below b2); clear b2 y0 y1 x0 x1 x2 x3 x4; have y0 := G4.out.cell (k := 0) rfl; have y1 := G4.out.cell (k := 1) rfl; have x0 := X4.out.cell (k := 0) rfl; have x1 := X4.out.cell (k := 1) rfl; have x2 := X4.out.cell (k := 2) rfl; have x3 := X4.out.cell (k := 3) rfl; have x4 := X4.out.cell (k := 4) rfl; simp only [List.getElem_toArray, List.getElem_cons_zero, List.getElem_cons_succ] at y0 y1 x0 x1 x2 x3 x4; clear G3 X3 B3) | (go_at_call 69; (with_reducible refine (RT.out _ _).mono ?_); rintro e u ⟨rfl, hu⟩; rw [hu, h2]; clear hu u) | (go_at_call 69; (with_reducible refine (RT.out _ _).mono ?_); rintro e u ⟨rfl, hu⟩; rw [hu, h3]; clear hu u))
                  go_roundg (N - (k + 1))
                  case measure => omega
                  case rel => exact ⟨k + 1, by omega, rfl, by go_num, B4.out, HZ.out ER⟩
    · have ek : k = N := by omega
      subst ek
      have hki : ¬ (k : Int) < (k : Int) := by omega
      have hz := hiddenN (arcs_none (m := m) (L := L) (fun i hi => HE.out i (by omega)))
      go_wp2
      go_ret
      rw [hz.out]
      exact ⟨rfl, BA.out.trans (HB.out.mono BA.out.size)⟩
theorem drewF (w : World) (q : Nat) : Below w.heap.size w (w.drewN q) := ⟨rfl, rfl, rfl, Nat.le_refl _, fun _ _ => rfl⟩
theorem blkF_but {T : TypeId} {b K : Nat} {u u' : World} {cs : Array Value} (h : BlkA T b u cs) (hb : But K u u') (hK : b ≠ K) : BlkA T b u' cs := h.keep (hb.block b h.lt hK)
/-- The list of joined nodes, as it lies. -/
structure LooF (B : Nat) (w : World) (hb lb g n : Nat) (L : Nat → Nat) : Prop where
  hc : w.cell? ⟨hb, 0, none⟩ = some (.func (.func 60) #[] #[.pointer (some ⟨lb, 0, none⟩)])
  lc : w.cell? ⟨lb, 0, none⟩ = some (.slice (some ⟨g, 0, none⟩) n n)
  row : CapR B w (some ⟨g, 0, none⟩) n (rowF n L)
  hg : hb ≠ g
  lg : lb ≠ g
  hB : B ≤ hb
  lB : B ≤ lb
theorem LooF.below {B : Nat} {w w' : World} {hb lb g n : Nat} {L : Nat → Nat} (h : LooF B w hb lb g n L) (hw : Below w.heap.size w w') : LooF B w' hb lb g n L :=
  ⟨cellN_later hw h.hc, cellN_later hw h.lc, h.row.later hw, h.hg, h.lg, h.hB, h.lB⟩
theorem LooF.cell {B : Nat} {w : World} {hb lb g n : Nat} {L : Nat → Nat} (h : LooF B w hb lb g n L) {k : Nat} (hk : k < n) : w.cell? ⟨g, k, none⟩ = some (.int .i64 (L k : Int)) := by
  rcases h.row.at with e | ⟨b, off, e, hc⟩
  · have := rowF_len n L
    rw [e] at this
    simp at this
    omega
  · cases e
    have := hc k (by rw [rowF_len]; exact hk)
    rw [rowF_nth hk, Nat.zero_add] at this
    exact this
theorem LooF.set {B : Nat} {w : World} {hb lb g n : Nat} {L : Nat → Nat} (h : LooF B w hb lb g n L) {k x : Nat} : LooF B (w.setCell ⟨g, k, none⟩ (.int .i64 (x : Int))) hb lb g n (updF L k x) := by
  refine ⟨?_, ?_, ?_, h.hg, h.lg, h.hB, h.lB⟩
  · rw [World.cell?_setCell_other _ _ _ _ (fun e => h.hg (by cases e; rfl))]; exact h.hc
  · rw [World.cell?_setCell_other _ _ _ _ (fun e => h.lg (by cases e; rfl))]; exact h.lc
  · rw [← rowF_set]
    exact h.row.setAt _
/-- The forest while its arcs are found. -/
structure F1S (n B0 B1 : Nat) (W1 wr : World) (hb lb g fb : Nat) (H : Nat → Nat) (T : List Nat) (d : Option Addr) (c : Nat) : Prop where
  loo : ∃ L, LooF B0 wr hb lb g n L ∧ UfF n L H
  blk : BlkA 66 fb wr #[.slice d (intsF T).length c, .slice none 0 0]
  row : CapR B1 wr d c (intsF T)
  frm : ∀ k, k < fb → k ≠ g → wr.heap[k]? = W1.heap[k]?
  os : wr.os = W1.os
  tape : wr.tape = W1.tape
  output : wr.output = W1.output
  size : B1 ≤ wr.heap.size
  low : g < fb ∧ hb < fb ∧ lb < fb ∧ fb < B1
theorem LooF.keep {B : Nat} {w w' : World} {hb lb g n : Nat} {L : Nat → Nat} (h : LooF B w hb lb g n L) (h1 : w'.heap[hb]? = w.heap[hb]?) (h2 : w'.heap[lb]? = w.heap[lb]?) (h3 : w'.heap[g]? = w.heap[g]?) : LooF B w' hb lb g n L := by
  refine ⟨?_, ?_, h.row.keep (fun x hx => by cases hx; exact h3), h.hg, h.lg, h.hB, h.lB⟩
  · have := h.hc; unfold World.cell? at this ⊢; rw [h1]; exact this
  · have := h.lc; unfold World.cell? at this ⊢; rw [h2]; exact this
theorem F1S.below {n B0 B1 : Nat} {W1 wr w' : World} {hb lb g fb : Nat} {H : Nat → Nat} {T : List Nat} {d : Option Addr} {c : Nat} (h : F1S n B0 B1 W1 wr hb lb g fb H T d c) (hw : Below wr.heap.size wr w') : F1S n B0 B1 W1 w' hb lb g fb H T d c := by
  obtain ⟨L, h1, h2⟩ := h.loo
  have l := h.low
  have s := h.size
  exact ⟨⟨L, h1.below hw, h2⟩, h.blk.below hw, h.row.later hw, fun k hk hn => (hw.block k (by omega)).trans (h.frm k hk hn), hw.os.trans h.os, hw.tape.trans h.tape, hw.output.trans h.output, Nat.le_trans h.size hw.size, h.low⟩
/-- Two nodes joined. -/
theorem F1S.join {n B0 B1 : Nat} {W1 wr w' : World} {hb lb g fb : Nat} {H H' : Nat → Nat} {T : List Nat} {d : Option Addr} {c : Nat} {L' : Nat → Nat} (h : F1S n B0 B1 W1 wr hb lb g fb H T d c) (hl : LooF B0 w' hb lb g n L') (hu : UfF n L' H') (hb' : But g wr w') : F1S n B0 B1 W1 w' hb lb g fb H' T d c := by
  have l := h.low
  have s := h.size
  refine ⟨⟨L', hl, hu⟩, blkF_but h.blk hb' (by omega), h.row.keep (fun x hx => hb'.block _ (h.row.lt x hx).2 (by have := (h.row.lt x hx).1; omega)), fun k hk hn => (hb'.block k (by omega) hn).trans (h.frm k hk hn), hb'.os.trans h.os, hb'.tape.trans h.tape, hb'.output.trans h.output, Nat.le_trans h.size hb'.size, h.low⟩
/-- One arc more: the row has grown, then the field is set. -/
theorem F1S.grow {n B0 B1 : Nat} {W1 wr w' : World} {hb lb g fb : Nat} {H : Nat → Nat} {T : List Nat} {d d' : Option Addr} {c c' : Nat} {j : Nat} (h : F1S n B0 B1 W1 wr hb lb g fb H T d c) (hr : CapR B1 w' d' c' (intsF T ++ [(j : Int)])) (hw : Below B1 wr w') : BlkA 66 fb w' #[.slice d (intsF T).length c, .slice none 0 0] ∧ F1S n B0 B1 W1 (w'.setCell ⟨fb, 0, none⟩ (.slice d' ((intsF T).length + 1) c')) hb lb g fb H (T ++ [j]) d' c' := by
  have l := h.low
  have s := h.size
  have hbk : BlkA 66 fb w' #[.slice d (intsF T).length c, .slice none 0 0] := h.blk.keep (hw.block fb (by omega))
  have bt := But.set w' fb 0 (.slice d' ((intsF T).length + 1) c')
  have s2 := hw.size
  refine ⟨hbk, ?_, ?_, ?_, fun k hk hn => ?_, bt.os.trans (hw.os.trans h.os), bt.tape.trans (hw.tape.trans h.tape), bt.output.trans (hw.output.trans h.output), Nat.le_trans (Nat.le_trans s s2) bt.size, h.low⟩
  · obtain ⟨L, h1, h2⟩ := h.loo
    exact ⟨L, h1.keep ((bt.block hb (by omega) (by omega)).trans (hw.block hb (by omega))) ((bt.block lb (by omega) (by omega)).trans (hw.block lb (by omega))) ((bt.block g (by omega) (by omega)).trans (hw.block g (by omega))), h2⟩
  · have := hbk.set 0 (.slice d' ((intsF T).length + 1) c')
    rw [intsF_snoc, List.length_append]
    exact this
  · rw [intsF_snoc]
    exact hr.keep fun x hx => bt.block _ (hr.lt x hx).2 (by have := (hr.lt x hx).1; omega)
  · exact (bt.block k (by omega) (by omega)).trans ((hw.block k (by omega)).trans (h.frm k hk hn))
/-- The forest while its homes are told: S: what was there when that began. -/
structure F2S (n S fb : Nat) (W2 wr : World) (d1 d2 : Option Addr) (c1 c2 : Nat) (l1 : Nat) (R : List Int) : Prop where
  blk : BlkA 66 fb wr #[.slice d1 l1 c1, .slice d2 R.length c2]
  row : CapR S wr d2 c2 R
  but : ∀ k, k < S → k ≠ fb → wr.heap[k]? = W2.heap[k]?
  os : wr.os = W2.os
  tape : wr.tape = W2.tape
  output : wr.output = W2.output
  size : S ≤ wr.heap.size
  low : fb < S
theorem F2S.below {n S fb : Nat} {W2 wr w' : World} {d1 d2 : Option Addr} {c1 c2 l1 : Nat} {R : List Int} (h : F2S n S fb W2 wr d1 d2 c1 c2 l1 R) (hw : Below wr.heap.size wr w') : F2S n S fb W2 w' d1 d2 c1 c2 l1 R :=
  ⟨h.blk.below hw, h.row.later hw, fun k hk hn => (hw.block k (Nat.lt_of_lt_of_le hk h.size)).trans (h.but k hk hn), hw.os.trans h.os, hw.tape.trans h.tape, hw.output.trans h.output, Nat.le_trans h.size hw.size, h.low⟩
theorem F2S.grow {n S fb : Nat} {W2 wr u : World} {d1 d2 d' : Option Addr} {c1 c2 c' l1 : Nat} {R : List Int} {x : Int} (h : F2S n S fb W2 wr d1 d2 c1 c2 l1 R) (hg : GrwN S wr d2 (R ++ [x]) u d' c') : BlkA 66 fb u #[.slice d1 l1 c1, .slice d2 R.length c2] ∧ F2S n S fb W2 (u.setCell ⟨fb, 1, none⟩ (.slice d' (R.length + 1) c')) d1 d' c1 c' l1 (R ++ [x]) := by
  have l := h.low
  have s := h.size
  have far : ∀ k, k < S → ∀ y, d2 = some y → y.block ≠ k := fun k hk y hy e => by have := (h.row.lt y hy).1; omega
  have hbk : BlkA 66 fb u #[.slice d1 l1 c1, .slice d2 R.length c2] := h.blk.keep (hg.keep fb (by omega) (far fb (by omega)))
  have bt := But.set u fb 1 (.slice d' (R.length + 1) c')
  have s2 := hg.size
  refine ⟨hbk, ?_, ?_, fun k hk hn => ?_, bt.os.trans (hg.os.trans h.os), bt.tape.trans (hg.tape.trans h.tape), bt.output.trans (hg.output.trans h.output), Nat.le_trans (Nat.le_trans s s2) bt.size, h.low⟩
  · have := hbk.set 1 (.slice d' (R.length + 1) c')
    rw [List.length_append]
    exact this
  · exact hg.own.keep fun x hx => bt.block _ (hg.own.lt x hx).2 (by have := (hg.own.lt x hx).1; omega)
  · exact (bt.block k (by omega) (by omega)).trans ((hg.keep k (by omega) (far k hk)).trans (h.but k hk hn))
theorem AtN.lt {w : World} {a : Option Addr} {L : List NA} (h : AtN w a L) (hL : 0 < L.length) : ∀ x, a = some x → x.block < w.heap.size := by
  intro x hx
  rcases h with e | ⟨b, off, e, hc⟩
  · rw [e] at hL; exact absurd hL (Nat.lt_irrefl _)
  · rw [e] at hx
    cases hx
    exact block_lt_of_cell (hc 0 hL).1
theorem F1S.old {n B0 B1 : Nat} {w W1 wr : World} {hb lb g fb B : Nat} {H : Nat → Nat} {T : List Nat} {d : Option Addr} {c : Nat} (h : F1S n B0 B1 W1 wr hb lb g fb H T d c) (hw : Below B w W1) (hB : B ≤ fb) (hg : B ≤ g) (hs : W1.heap.size ≤ wr.heap.size) : Below B w wr :=
  ⟨h.os.trans hw.os, h.tape.trans hw.tape, h.output.trans hw.output, Nat.le_trans hw.size hs, fun k hk => (h.frm k (by omega) (by omega)).trans (hw.block k hk)⟩
theorem F2S.old {n S fb B : Nat} {w W2 wr : World} {d1 d2 : Option Addr} {c1 c2 l1 : Nat} {R : List Int} (h : F2S n S fb W2 wr d1 d2 c1 c2 l1 R) (hw : Below B w W2) (hB : B ≤ fb) (hs : W2.heap.size ≤ wr.heap.size) : Below B w wr :=
  ⟨h.os.trans hw.os, h.tape.trans hw.tape, h.output.trans hw.output, Nat.le_trans hw.size hs, fun k hk => (h.but k (by have := h.low; omega) (by omega)).trans (hw.block k hk)⟩
/-- The document's state of a net, as it lies. -/
structure DocS (B : Nat) (U : World) (n : NN) (a : Option Addr) (g N : Nat) (F : List Int) : Prop where
  arcs : AtN U a n.arcs
  fir : CapR B U (some ⟨g, 0, none⟩) N F
  lF : F.length = N
  nodes : n.nodes = (N : Int)
  sound : SoundN n
  far : ∀ x, a = some x → n.arcs ≠ [] → x.block ≠ g
  inr : InR F
theorem DocS.below {B : Nat} {U U' : World} {n : NN} {a : Option Addr} {g N : Nat} {F : List Int} (h : DocS B U n a g N F) (hb : Below U.heap.size U U') : DocS B U' n a g N F := ⟨h.arcs.below hb, h.fir.later hb, h.lF, h.nodes, h.sound, h.far, h.inr⟩
theorem DocS.cell {B : Nat} {U : World} {n : NN} {a : Option Addr} {g N : Nat} {F : List Int} (h : DocS B U n a g N F) {k : Nat} (hk : k < N) : U.cell? ⟨g, k, none⟩ = some (.int .i64 (nth F k)) := by
  rcases h.fir.at with e | ⟨tb, tof, et, cF⟩
  · have := h.lF; rw [e] at this; simp at this; omega
  · obtain ⟨rfl, rfl⟩ : g = tb ∧ 0 = tof := by simp at et; exact ⟨et.1, et.2⟩
    have := cF k (by rw [h.lF]; exact hk)
    rw [Nat.zero_add] at this
    exact this
set_option maxRecDepth 100000 in
set_option maxHeartbeats 4000000 in
theorem has10_any {B : Nat} (w : World) (n : NN) (a : Option Addr) (c g N : Nat) (F : List Int) (h : DocS B w n a g N F) (i : Nat) (hi : i < n.arcs.length) : Calls Try.prog 31 #[.agg #[.int .i64 n.nodes, .slice a n.arcs.length c, .slice (some ⟨g, 0, none⟩) N N], .int .i64 (i : Int)] w fun e w' => e = .returned (.int .i64 (hasN n F i)) ∧ Below w.heap.size w w' := by
  have ba := (Below.refl w.heap.size w).alloc (Nat.le_refl _) (.cells #[.int .i64 n.nodes, .slice a n.arcs.length c, .slice (some ⟨g, 0, none⟩) N N] 50)
  have X := hiddenN (blkA_new 50 w #[.int .i64 n.nodes, .slice a n.arcs.length c, .slice (some ⟨g, 0, none⟩) N N])
  have H := hiddenN (h.below ba)
  have B0 := hiddenN ba
  have hs := h.sound.arcs i hi
  have hN := h.nodes
  rcases H.out.arcs with e | ⟨ab, ao, ea, hca⟩
  · rw [e] at hi; simp at hi
  obtain ⟨a0, a1, a2, a3, a4⟩ := hca i hi
  obtain ⟨fn, efn⟩ : ∃ k : Nat, (nthNa n.arcs i).f = (k : Int) := ⟨(nthNa n.arcs i).f.toNat, by have := hs.f; omega⟩
  obtain ⟨tn, etn⟩ : ∃ k : Nat, (nthNa n.arcs i).t = (k : Int) := ⟨(nthNa n.arcs i).t.toNat, by have := hs.t; omega⟩
  have hfn : fn < N := by have := hs.f; omega
  have htn : tn < N := by have := hs.t; omega
  unfold hasN
  rw [efn] at a0 ⊢
  rw [etn] at a1 ⊢
  rw [Int.toNat_natCast, Int.toNat_natCast]
  have CF := hiddenN (fun (U : World) (hb : Below (w.alloc (.cells #[.int .i64 n.nodes, .slice a n.arcs.length c, .slice (some ⟨g, 0, none⟩) N N] 50)).heap.size (w.alloc (.cells #[.int .i64 n.nodes, .slice a n.arcs.length c, .slice (some ⟨g, 0, none⟩) N N] 50)) U) => (H.out.below hb).cell hfn)
  have CT := hiddenN (fun (U : World) (hb : Below (w.alloc (.cells #[.int .i64 n.nodes, .slice a n.arcs.length c, .slice (some ⟨g, 0, none⟩) N N] 50)).heap.size (w.alloc (.cells #[.int .i64 n.nodes, .slice a n.arcs.length c, .slice (some ⟨g, 0, none⟩) N N] 50)) U) => (H.out.below hb).cell htn)
  generalize (nthNa n.arcs i).g = gg at *
  generalize (nthNa n.arcs i).k = kk at *
  generalize (nthNa n.arcs i).s = ss at *
  generalize nth F fn = xf at *
  generalize nth F tn = xt at *
  have x0 := X.out.cell (k := 1) rfl
  simp only [List.getElem_toArray, List.getElem_cons_zero, List.getElem_cons_succ] at x0
  have hii : (i : Int) < (n.arcs.length : Int) := by omega
  have hmul := wrap_nest ss (gg * xf) (kk * xt)
  have w1 := wrapN (gg * xf)
  have w2 := wrapN (ss + wrap64 (gg * xf))
  have w3 := wrapN (kk * xt)
  have w4 := wrapN (wrap64 (ss + wrap64 (gg * xf)) - wrap64 (kk * xt))
  rw [hmul] at w4
  subst ea
  clear hca hs efn etn h ba H hN hmul
  go_enter Try.func31, Try.ntmps31
  go_upto_region 1 with fail
  generalize w.alloc (.cells #[.int .i64 n.nodes, .slice (some ⟨ab, ao, none⟩) n.arcs.length c, .slice (some ⟨g, 0, none⟩) N N] 50) = W0 at *
  go_upto_region 2 with fail
  have bc := (Below.refl W0.heap.size W0).alloc (Nat.le_refl _) (.cells #[.int .i64 (fn : Int), .int .i64 (tn : Int), .int .i64 gg, .int .i64 kk, .int .i64 ss] 64)
  have XA := blkA_new 64 W0 #[.int .i64 (fn : Int), .int .i64 (tn : Int), .int .i64 gg, .int .i64 kk, .int .i64 ss]
  have cf := CF.out _ bc
  have ct := CT.out _ bc
  have x2 := (X.out.below bc).cell (k := 2) rfl
  have B1 := hiddenN (B0.out.trans (bc.mono B0.out.size))
  obtain ⟨xb, hxb⟩ : ∃ q, W0.heap.size = q := ⟨_, rfl⟩
  rw [hxb] at XA ⊢
  generalize W0.alloc (.cells #[.int .i64 (fn : Int), .int .i64 (tn : Int), .int .i64 gg, .int .i64 kk, .int .i64 ss] 64) = V1 at *
  have y0 := XA.cell (k := 0) rfl
  have y1 := XA.cell (k := 1) rfl
  have y2 := XA.cell (k := 2) rfl
  have y3 := XA.cell (k := 3) rfl
  have y4 := XA.cell (k := 4) rfl
  simp only [List.getElem_toArray, List.getElem_cons_zero, List.getElem_cons_succ] at x2 y0 y1 y2 y3 y4
  have hfI : (fn : Int) < (N : Int) := by omega
  have htI : (tn : Int) < (N : Int) := by omega
  clear bc XA CF CT a0 a1 a2 a3 a4 x0 hxb X B0
  go_quiet (fail)
  go_wp2
  go_ret
  exact ⟨rfl, drewB B1.out _⟩
set_option maxRecDepth 100000 in
set_option maxHeartbeats 8000000 in
theorem rshort10_any {B : Nat} (w : World) (n : NN) (a : Option Addr) (c g N : Nat) (T F : List Int) (h : DocS B w n a g N F) (hI : InvN n T F) (v : Int) : Calls Try.prog 18 #[.agg #[.int .i64 n.nodes, .slice a n.arcs.length c, .slice (some ⟨g, 0, none⟩) N N], .int .i64 v] w fun e w' => e = .returned (.int .i64 (shortN n T v)) ∧ Below w.heap.size w w' := by
  have ba := (Below.refl w.heap.size w).alloc (Nat.le_refl _) (.cells #[.int .i64 n.nodes, .slice a n.arcs.length c, .slice (some ⟨g, 0, none⟩) N N] 50)
  have X := hiddenN (blkA_new 50 w #[.int .i64 n.nodes, .slice a n.arcs.length c, .slice (some ⟨g, 0, none⟩) N N])
  have H := hiddenN (h.below ba)
  have B0 := hiddenN ba
  have hmost := h.sound.most
  have SF := hiddenN (fun i hi ht hl hb => short_first (n := n) (T := T) (v := v) (i := i) h.sound hi ht hl hb)
  have HE := hiddenN hI.eq
  clear ba h hI
  go_enter Try.func18, Try.ntmps18
  go_upto_region 1 with fail
  generalize w.alloc (.cells #[.int .i64 n.nodes, .slice a n.arcs.length c, .slice (some ⟨g, 0, none⟩) N N] 50) = W0 at *
  go_wp2
  go_loopg [5] n.arcs.length (fun gk v5 wr => ∃ i : Nat, i ≤ n.arcs.length ∧ gk = n.arcs.length - i ∧ v5 = .int .i64 (i : Int) ∧ Below W0.heap.size W0 wr ∧ ∀ j, j < i → (nthNa n.arcs j).t = v → ¬ nth T j < (nthNa n.arcs j).k)
  case atStart => exact ⟨0, Nat.zero_le _, rfl, rfl, Below.refl _ _, fun j hj => by omega⟩
  case round =>
    obtain ⟨i, hi, rfl, rfl, hb7, hno⟩ := hrel
    have B7 := hiddenN hb7
    have HNO := hiddenN hno
    clear hb7 hno
    have z1 := (X.out.below B7.out).cell (k := 1) rfl
    simp only [List.getElem_toArray, List.getElem_cons_zero, List.getElem_cons_succ] at z1
    by_cases hil : i < n.arcs.length
    · have hii : (i : Int) < (n.arcs.length : Int) := by omega
      have z0 := (X.out.below B7.out).cell (k := 0) rfl
      have z2 := (X.out.below B7.out).cell (k := 2) rfl
      simp only [List.getElem_toArray, List.getElem_cons_zero, List.getElem_cons_succ] at z0 z2
      have HD := hiddenN (H.out.below B7.out)
      rcases HD.out.arcs with e | ⟨ab, ao, ea, hca⟩
      · rw [e] at hil; simp at hil
      obtain ⟨-, a1, -, a3, -⟩ := hca i hil
      have hei := HE.out i hil
      have HX := hiddenN (fun (U : World) (hb : Below wr.heap.size wr U) => has10_any U n a c g N F (HD.out.below hb) i hil)
      have HS := hiddenN (SF.out i hil)
      have HZ : Hid (¬ ((nthNa n.arcs i).t = v ∧ nth T i < (nthNa n.arcs i).k) → ∀ j, j < i + 1 → (nthNa n.arcs j).t = v → ¬ nth T j < (nthNa n.arcs j).k) := fun h0 j hj hjt hjl => by
        by_cases e : j = i
        · subst e; exact h0 ⟨hjt, hjl⟩
        · exact HNO.out j (by omega) hjt hjl
      rw [← hei] at HX
      subst ea
      generalize (nthNa n.arcs i).t = tt at *
      generalize (nthNa n.arcs i).k = kk at *
      generalize nth T i = hx at *
      have HH : Hid (∀ U, Below wr.heap.size wr U → Calls Try.prog 31 #[.agg #[.int .i64 n.nodes, .slice (some ⟨ab, ao, none⟩) n.arcs.length c, .slice (some ⟨g, 0, none⟩) N N], .int .i64 (i : Int)] U fun e w' => e = .returned (.int .i64 hx) ∧ Below U.heap.size U w') := fun U hb => HX.out U hb
      clear hca HX hei
      by_cases htv : tt = v
      · have hbe : (tt == v) = true := by simpa using htv
        obtain ⟨bl, hbl⟩ : ∃ b, decide (hx < kk) = b := ⟨_, rfl⟩
        go_upto_region 4 with fail
        refine wp_region_gen [] (fun d i_ u z => match i_ with
            | 0 => z = .pointer (some ⟨w.heap.size, 0, none⟩)
            | 1 => z = .pointer (some ⟨w.heap.size, 1, none⟩)
            | 2 => z = .slice (some ⟨ab, ao, none⟩) n.arcs.length c
            | 3 => z = .int .i64 (i : Int)
            | 4 => z = .pointer (some ⟨ab, ao + i * 5, none⟩)
            | 5 => z = .pointer (some ⟨ab, ao + i * 5 + 1, none⟩)
            | 6 => z = .int .i64 tt
            | 7 => z = .int .i64 v
            | 8 => z = .bool true
            | 9 => z = .bool true
            | 10 => z = .agg #[.int .i64 n.nodes, .slice (some ⟨ab, ao, none⟩) n.arcs.length c, .slice (some ⟨g, 0, none⟩) N N]
            | 11 => z = .int .i64 (i : Int)
            | 12 => z = .int .i64 hx
            | 13 => z = .pointer (some ⟨w.heap.size, 0, none⟩)
            | 14 => z = .pointer (some ⟨w.heap.size, 1, none⟩)
            | 15 => z = .slice (some ⟨ab, ao, none⟩) n.arcs.length c
            | 16 => z = .int .i64 (i : Int)
            | 17 => z = .pointer (some ⟨ab, ao + i * 5, none⟩)
            | 18 => z = .pointer (some ⟨ab, ao + i * 5 + 3, none⟩)
            | 19 => z = .int .i64 kk
            | 20 => z = .bool bl
            | 21 => z = .bool bl
            | _ => True) (fun _ u => Below wr.heap.size wr u) (by kernel_rfl) (by kernel_rfl) (by kernel_rfl) ?_ ?_ ?_ ?_ ?_ ?_ (by kernel_rfl)
        · intro d i_ w v w' h hb
          match i_, h with
          | 0, h => exact h
          | 1, h => exact h
          | 2, h => exact h
          | 3, h => exact h
          | 4, h => exact h
          | 5, h => exact h
          | 6, h => exact h
          | 7, h => exact h
          | 8, h => exact h
          | 9, h => exact h
          | 10, h => exact h
          | 11, h => exact h
          | 12, h => exact h
          | 13, h => exact h
          | 14, h => exact h
          | 15, h => exact h
          | 16, h => exact h
          | 17, h => exact h
          | 18, h => exact h
          | 19, h => exact h
          | 20, h => exact h
          | 21, h => exact h
          | _ + 22, _ => trivial
        · intro d u u' h hb
          exact h.trans (hb.mono h.size)
        · exact Below.refl _ _
        · intro d i_ o ρ w' hm ho hf hg hC hcs hfs hfr hdep
          match i_, hm, ho, hf, hg, hfr, hdep with
          | 0, _, ho, hf, hg, hfr, hdep =>
            simp only [gTA, gCZ, gSI] at ho
            subst ho
            refine ⟨fun _ => ?_, fun hw => absurd (show true = false from hw) (by decide)⟩
            have ts : ρ (.tmp 2) = .pointer (some ⟨w.heap.size, 0, none⟩) := hfr 2 (by kernel_rfl)
            simp [go_sem, ts]
            exact ⟨Below.refl _ _, rfl⟩
          | 1, _, ho, hf, hg, hfr, hdep =>
            simp only [gTA, gCZ, gCS, gSI] at ho
            subst ho
            refine ⟨fun _ => ?_, fun hw => absurd (show true = false from hw) (by decide)⟩
            have d0 : ρ (.tmp 14) = .pointer (some ⟨w.heap.size, 0, none⟩) := hdep 0 14 (by kernel_rfl) (by kernel_rfl)
            simp [go_sem, d0]
            exact ⟨Below.refl _ _, rfl⟩
          | 2, _, ho, hf, hg, hfr, hdep =>
            simp only [gTA, gCZ, gCS, gSI] at ho
            subst ho
            refine ⟨fun _ => ?_, fun hw => absurd (show true = false from hw) (by decide)⟩
            have cc : w'.cell? ⟨w.heap.size, 1, none⟩ = some (.slice (some ⟨ab, ao, none⟩) n.arcs.length c) := cellN_later hC z1
            have d0 : ρ (.tmp 15) = .pointer (some ⟨w.heap.size, 1, none⟩) := hdep 1 15 (by kernel_rfl) (by kernel_rfl)
            simp [go_sem, d0, cc]
            exact ⟨Below.refl _ _, rfl⟩
          | 3, _, ho, hf, hg, hfr, hdep =>
            simp only [gTA, gCZ, gCS, gSI] at ho
            subst ho
            refine ⟨fun _ => ?_, fun hw => absurd (show true = false from hw) (by decide)⟩
            have ts : ρ (.tmp 5) = .int .i64 (i : Int) := hfr 5 (by kernel_rfl)
            simp [go_sem, ts]
            exact ⟨Below.refl _ _, rfl⟩
          | 4, _, ho, hf, hg, hfr, hdep =>
            simp only [gTA, gCZ, gCS, gSI] at ho
            subst ho
            refine ⟨fun _ => ?_, fun hw => absurd (show true = false from hw) (by decide)⟩
            have d0 : ρ (.tmp 16) = .slice (some ⟨ab, ao, none⟩) n.arcs.length c := hdep 2 16 (by kernel_rfl) (by kernel_rfl)
            have d1 : ρ (.tmp 17) = .int .i64 (i : Int) := hdep 3 17 (by kernel_rfl) (by kernel_rfl)
            simp [go_sem, d0, d1, hil]
            exact ⟨Below.refl _ _, rfl⟩
          | 5, _, ho, hf, hg, hfr, hdep =>
            simp only [gTA, gCZ, gCS, gSI] at ho
            subst ho
            refine ⟨fun _ => ?_, fun hw => absurd (show true = false from hw) (by decide)⟩
            have d0 : ρ (.tmp 18) = .pointer (some ⟨ab, ao + i * 5, none⟩) := hdep 4 18 (by kernel_rfl) (by kernel_rfl)
            simp [go_sem, d0]
            exact ⟨Below.refl _ _, rfl⟩
          | 6, _, ho, hf, hg, hfr, hdep =>
            simp only [gTA, gCZ, gCS, gSI] at ho
            subst ho
            refine ⟨fun _ => ?_, fun hw => absurd (show true = false from hw) (by decide)⟩
            have cc : w'.cell? ⟨ab, ao + i * 5 + 1, none⟩ = some (.int .i64 tt) := cellN_later hC a1
            have d0 : ρ (.tmp 19) = .pointer (some ⟨ab, ao + i * 5 + 1, none⟩) := hdep 5 19 (by kernel_rfl) (by kernel_rfl)
            simp [go_sem, d0, cc]
            exact ⟨Below.refl _ _, rfl⟩
          | 7, _, ho, hf, hg, hfr, hdep =>
            simp only [gTA, gCZ, gCS, gSI] at ho
            subst ho
            refine ⟨fun _ => ?_, fun hw => absurd (show true = false from hw) (by decide)⟩
            have ts : ρ (.tmp 1) = .int .i64 v := hfr 1 (by kernel_rfl)
            simp [go_sem, ts]
            exact ⟨Below.refl _ _, rfl⟩
          | 8, _, ho, hf, hg, hfr, hdep =>
            simp only [gTA, gCZ, gCS, gSI] at ho
            subst ho
            refine ⟨fun _ => ?_, fun hw => absurd (show true = false from hw) (by decide)⟩
            have d0 : ρ (.tmp 20) = .int .i64 tt := hdep 6 20 (by kernel_rfl) (by kernel_rfl)
            have d1 : ρ (.tmp 21) = .int .i64 v := hdep 7 21 (by kernel_rfl) (by kernel_rfl)
            simp [go_sem, d0, d1, hbe]
            exact ⟨Below.refl _ _, rfl⟩
          | 9, _, ho, hf, hg, hfr, hdep =>
            simp only [gTA, gCZ, gCS, gSI] at ho
            subst ho
            refine ⟨fun _ => ?_, fun hw => absurd (show true = false from hw) (by decide)⟩
            have d0 : ρ (.tmp 22) = .bool true := hdep 8 22 (by kernel_rfl) (by kernel_rfl)
            simp [go_sem, d0]
            exact ⟨Below.refl _ _, rfl⟩
          | 10, _, ho, hf, hg, hfr, hdep =>
            simp only [gTA, gCZ, gCS, gSI] at ho
            subst ho
            have gd : ρ (.tmp 23) = .bool true := hdep 9 23 (by kernel_rfl) (by kernel_rfl)
            refine ⟨fun _ => ?_, fun hw => absurd (show (match ρ (.tmp 23) with | .bool c => c == true | _ => false) = false from hw) (by rw [gd]; decide)⟩
            clear gd
            have ts : ρ (.tmp 2) = .pointer (some ⟨w.heap.size, 0, none⟩) := hfr 2 (by kernel_rfl)
            have k0 := cellN_later hC z0
            have k1 := cellN_later hC z1
            have k2 := cellN_later hC z2
            simp [go_sem, ts, k0, k1, k2]
            exact ⟨Below.refl _ _, rfl⟩
          | 11, _, ho, hf, hg, hfr, hdep =>
            simp only [gTA, gCZ, gCS, gSI] at ho
            subst ho
            have gd : ρ (.tmp 23) = .bool true := hdep 9 23 (by kernel_rfl) (by kernel_rfl)
            refine ⟨fun _ => ?_, fun hw => absurd (show (match ρ (.tmp 23) with | .bool c => c == true | _ => false) = false from hw) (by rw [gd]; decide)⟩
            clear gd
            have ts : ρ (.tmp 5) = .int .i64 (i : Int) := hfr 5 (by kernel_rfl)
            simp [go_sem, ts]
            exact ⟨Below.refl _ _, rfl⟩
          | 12, _, ho, hf, hg, hfr, hdep =>
            simp only [gTA, gCZ, gCS, gSI] at ho
            subst ho
            have gd : ρ (.tmp 23) = .bool true := hdep 9 23 (by kernel_rfl) (by kernel_rfl)
            refine ⟨fun _ => ?_, fun hw => absurd (show (match ρ (.tmp 23) with | .bool c => c == true | _ => false) = false from hw) (by rw [gd]; decide)⟩
            clear gd
            have d0 : ρ (.tmp 24) = .agg #[.int .i64 n.nodes, .slice (some ⟨ab, ao, none⟩) n.arcs.length c, .slice (some ⟨g, 0, none⟩) N N] := hdep 10 24 (by kernel_rfl) (by kernel_rfl)
            have d1 : ρ (.tmp 25) = .int .i64 (i : Int) := hdep 11 25 (by kernel_rfl) (by kernel_rfl)
            simp [go_sem, d0, d1, hfs]
            exact ⟨rfl, (HH.out w' hC).mono fun e w'' hh => ⟨_, hh.1, hh.2, rfl⟩⟩
          | 13, _, ho, hf, hg, hfr, hdep =>
            simp only [gTA, gCZ, gCS, gSI] at ho
            subst ho
            have gd : ρ (.tmp 23) = .bool true := hdep 9 23 (by kernel_rfl) (by kernel_rfl)
            refine ⟨fun _ => ?_, fun hw => absurd (show (match ρ (.tmp 23) with | .bool c => c == true | _ => false) = false from hw) (by rw [gd]; decide)⟩
            clear gd
            have ts : ρ (.tmp 2) = .pointer (some ⟨w.heap.size, 0, none⟩) := hfr 2 (by kernel_rfl)
            simp [go_sem, ts]
            exact ⟨Below.refl _ _, rfl⟩
          | 14, _, ho, hf, hg, hfr, hdep =>
            simp only [gTA, gCZ, gCS, gSI] at ho
            subst ho
            have gd : ρ (.tmp 23) = .bool true := hdep 9 23 (by kernel_rfl) (by kernel_rfl)
            refine ⟨fun _ => ?_, fun hw => absurd (show (match ρ (.tmp 23) with | .bool c => c == true | _ => false) = false from hw) (by rw [gd]; decide)⟩
            clear gd
            have d0 : ρ (.tmp 27) = .pointer (some ⟨w.heap.size, 0, none⟩) := hdep 13 27 (by kernel_rfl) (by kernel_rfl)
            simp [go_sem, d0]
            exact ⟨Below.refl _ _, rfl⟩
          | 15, _, ho, hf, hg, hfr, hdep =>
            simp only [gTA, gCZ, gCS, gSI] at ho
            subst ho
            have gd : ρ (.tmp 23) = .bool true := hdep 9 23 (by kernel_rfl) (by kernel_rfl)
            refine ⟨fun _ => ?_, fun hw => absurd (show (match ρ (.tmp 23) with | .bool c => c == true | _ => false) = false from hw) (by rw [gd]; decide)⟩
            clear gd
            have cc : w'.cell? ⟨w.heap.size, 1, none⟩ = some (.slice (some ⟨ab, ao, none⟩) n.arcs.length c) := cellN_later hC z1
            have d0 : ρ (.tmp 28) = .pointer (some ⟨w.heap.size, 1, none⟩) := hdep 14 28 (by kernel_rfl) (by kernel_rfl)
            simp [go_sem, d0, cc]
            exact ⟨Below.refl _ _, rfl⟩
          | 16, _, ho, hf, hg, hfr, hdep =>
            simp only [gTA, gCZ, gCS, gSI] at ho
            subst ho
            have gd : ρ (.tmp 23) = .bool true := hdep 9 23 (by kernel_rfl) (by kernel_rfl)
            refine ⟨fun _ => ?_, fun hw => absurd (show (match ρ (.tmp 23) with | .bool c => c == true | _ => false) = false from hw) (by rw [gd]; decide)⟩
            clear gd
            have ts : ρ (.tmp 5) = .int .i64 (i : Int) := hfr 5 (by kernel_rfl)
            simp [go_sem, ts]
            exact ⟨Below.refl _ _, rfl⟩
          | 17, _, ho, hf, hg, hfr, hdep =>
            simp only [gTA, gCZ, gCS, gSI] at ho
            subst ho
            have gd : ρ (.tmp 23) = .bool true := hdep 9 23 (by kernel_rfl) (by kernel_rfl)
            refine ⟨fun _ => ?_, fun hw => absurd (show (match ρ (.tmp 23) with | .bool c => c == true | _ => false) = false from hw) (by rw [gd]; decide)⟩
            clear gd
            have d0 : ρ (.tmp 29) = .slice (some ⟨ab, ao, none⟩) n.arcs.length c := hdep 15 29 (by kernel_rfl) (by kernel_rfl)
            have d1 : ρ (.tmp 30) = .int .i64 (i : Int) := hdep 16 30 (by kernel_rfl) (by kernel_rfl)
            simp [go_sem, d0, d1, hil]
            exact ⟨Below.refl _ _, rfl⟩
          | 18, _, ho, hf, hg, hfr, hdep =>
            simp only [gTA, gCZ, gCS, gSI] at ho
            subst ho
            have gd : ρ (.tmp 23) = .bool true := hdep 9 23 (by kernel_rfl) (by kernel_rfl)
            refine ⟨fun _ => ?_, fun hw => absurd (show (match ρ (.tmp 23) with | .bool c => c == true | _ => false) = false from hw) (by rw [gd]; decide)⟩
            clear gd
            have d0 : ρ (.tmp 31) = .pointer (some ⟨ab, ao + i * 5, none⟩) := hdep 17 31 (by kernel_rfl) (by kernel_rfl)
            simp [go_sem, d0]
            exact ⟨Below.refl _ _, rfl⟩
          | 19, _, ho, hf, hg, hfr, hdep =>
            simp only [gTA, gCZ, gCS, gSI] at ho
            subst ho
            have gd : ρ (.tmp 23) = .bool true := hdep 9 23 (by kernel_rfl) (by kernel_rfl)
            refine ⟨fun _ => ?_, fun hw => absurd (show (match ρ (.tmp 23) with | .bool c => c == true | _ => false) = false from hw) (by rw [gd]; decide)⟩
            clear gd
            have cc : w'.cell? ⟨ab, ao + i * 5 + 3, none⟩ = some (.int .i64 kk) := cellN_later hC a3
            have d0 : ρ (.tmp 32) = .pointer (some ⟨ab, ao + i * 5 + 3, none⟩) := hdep 18 32 (by kernel_rfl) (by kernel_rfl)
            simp [go_sem, d0, cc]
            exact ⟨Below.refl _ _, rfl⟩
          | 20, _, ho, hf, hg, hfr, hdep =>
            simp only [gTA, gCZ, gCS, gSI] at ho
            subst ho
            have gd : ρ (.tmp 23) = .bool true := hdep 9 23 (by kernel_rfl) (by kernel_rfl)
            refine ⟨fun _ => ?_, fun hw => absurd (show (match ρ (.tmp 23) with | .bool c => c == true | _ => false) = false from hw) (by rw [gd]; decide)⟩
            clear gd
            have d0 : ρ (.tmp 26) = .int .i64 hx := hdep 12 26 (by kernel_rfl) (by kernel_rfl)
            have d1 : ρ (.tmp 33) = .int .i64 kk := hdep 19 33 (by kernel_rfl) (by kernel_rfl)
            simp [go_sem, d0, d1, hbl]
            exact ⟨Below.refl _ _, rfl⟩
          | 21, _, ho, hf, hg, hfr, hdep =>
            simp only [gTA, gCZ, gCS, gSI] at ho
            subst ho
            refine ⟨fun _ => ?_, fun hw => absurd (show true = false from hw) (by decide)⟩
            have d0 : ρ (.tmp 23) = .bool true := hdep 9 23 (by kernel_rfl) (by kernel_rfl)
            have d1 : ρ (.tmp 34) = .bool bl := hdep 20 34 (by kernel_rfl) (by kernel_rfl)
            simp [go_sem, d0, d1]
            exact ⟨Below.refl _ _, rfl⟩
          | n + 22, _, ho, _, _, _, _ => simp at ho
        · intro d i_ o ρ w' hm ho h0 hf hg hC hcs hfs hfr hdep
          exact absurd hm (by simp)
        · intro V w9 hC9 hS
          have e21 : V 21 = .bool bl := hS 21 (by decide) (by intro h; cases h)
          simp only [puts, e21]
          simp only [Act.put, List.setIfInBounds_toArray, List.set_cons_zero, List.set_cons_succ]
          clear hS e21
          have B9 := hiddenN (B7.out.trans (hC9.mono B7.out.size))
          clear hC9
          cases bl with
          | true =>
            have hlt := of_decide_eq_true hbl
            go_wp2
            go_ret
            rw [HS.out htv hlt HNO.out]
            exact ⟨rfl, B0.out.trans (B9.out.mono B0.out.size)⟩
          | false =>
            have hlt := of_decide_eq_false hbl
            go_wp2
            go_roundg (n.arcs.length - (i + 1))
            case measure => omega
            case rel => exact ⟨i + 1, by omega, rfl, by go_num, B9.out, HZ.out (fun e => by have := e.2; omega)⟩
      · have hbe : (tt == v) = false := by simpa using htv
        go_upto_region 4 with fail
        refine wp_region_gen [] (fun d i_ u z => match i_ with
            | 0 => z = .pointer (some ⟨w.heap.size, 0, none⟩)
            | 1 => z = .pointer (some ⟨w.heap.size, 1, none⟩)
            | 2 => z = .slice (some ⟨ab, ao, none⟩) n.arcs.length c
            | 3 => z = .int .i64 (i : Int)
            | 4 => z = .pointer (some ⟨ab, ao + i * 5, none⟩)
            | 5 => z = .pointer (some ⟨ab, ao + i * 5 + 1, none⟩)
            | 6 => z = .int .i64 tt
            | 7 => z = .int .i64 v
            | 8 => z = .bool false
            | 9 => z = .bool false
            | 10 => z = undef
            | 11 => z = undef
            | 12 => z = undef
            | 13 => z = undef
            | 14 => z = undef
            | 15 => z = undef
            | 16 => z = undef
            | 17 => z = undef
            | 18 => z = undef
            | 19 => z = undef
            | 20 => z = undef
            | 21 => z = .bool false
            | _ => True) (fun _ u => Below wr.heap.size wr u) (by kernel_rfl) (by kernel_rfl) (by kernel_rfl) ?_ ?_ ?_ ?_ ?_ ?_ (by kernel_rfl)
        · intro d i_ w v w' h hb
          match i_, h with
          | 0, h => exact h
          | 1, h => exact h
          | 2, h => exact h
          | 3, h => exact h
          | 4, h => exact h
          | 5, h => exact h
          | 6, h => exact h
          | 7, h => exact h
          | 8, h => exact h
          | 9, h => exact h
          | 10, h => exact h
          | 11, h => exact h
          | 12, h => exact h
          | 13, h => exact h
          | 14, h => exact h
          | 15, h => exact h
          | 16, h => exact h
          | 17, h => exact h
          | 18, h => exact h
          | 19, h => exact h
          | 20, h => exact h
          | 21, h => exact h
          | _ + 22, _ => trivial
        · intro d u u' h hb
          exact h.trans (hb.mono h.size)
        · exact Below.refl _ _
        · intro d i_ o ρ w' hm ho hf hg hC hcs hfs hfr hdep
          match i_, hm, ho, hf, hg, hfr, hdep with
          | 0, _, ho, hf, hg, hfr, hdep =>
            simp only [gTA, gCZ, gSI] at ho
            subst ho
            refine ⟨fun _ => ?_, fun hw => absurd (show true = false from hw) (by decide)⟩
            have ts : ρ (.tmp 2) = .pointer (some ⟨w.heap.size, 0, none⟩) := hfr 2 (by kernel_rfl)
            simp [go_sem, ts]
            exact ⟨Below.refl _ _, rfl⟩
          | 1, _, ho, hf, hg, hfr, hdep =>
            simp only [gTA, gCZ, gCS, gSI] at ho
            subst ho
            refine ⟨fun _ => ?_, fun hw => absurd (show true = false from hw) (by decide)⟩
            have d0 : ρ (.tmp 14) = .pointer (some ⟨w.heap.size, 0, none⟩) := hdep 0 14 (by kernel_rfl) (by kernel_rfl)
            simp [go_sem, d0]
            exact ⟨Below.refl _ _, rfl⟩
          | 2, _, ho, hf, hg, hfr, hdep =>
            simp only [gTA, gCZ, gCS, gSI] at ho
            subst ho
            refine ⟨fun _ => ?_, fun hw => absurd (show true = false from hw) (by decide)⟩
            have cc : w'.cell? ⟨w.heap.size, 1, none⟩ = some (.slice (some ⟨ab, ao, none⟩) n.arcs.length c) := cellN_later hC z1
            have d0 : ρ (.tmp 15) = .pointer (some ⟨w.heap.size, 1, none⟩) := hdep 1 15 (by kernel_rfl) (by kernel_rfl)
            simp [go_sem, d0, cc]
            exact ⟨Below.refl _ _, rfl⟩
          | 3, _, ho, hf, hg, hfr, hdep =>
            simp only [gTA, gCZ, gCS, gSI] at ho
            subst ho
            refine ⟨fun _ => ?_, fun hw => absurd (show true = false from hw) (by decide)⟩
            have ts : ρ (.tmp 5) = .int .i64 (i : Int) := hfr 5 (by kernel_rfl)
            simp [go_sem, ts]
            exact ⟨Below.refl _ _, rfl⟩
          | 4, _, ho, hf, hg, hfr, hdep =>
            simp only [gTA, gCZ, gCS, gSI] at ho
            subst ho
            refine ⟨fun _ => ?_, fun hw => absurd (show true = false from hw) (by decide)⟩
            have d0 : ρ (.tmp 16) = .slice (some ⟨ab, ao, none⟩) n.arcs.length c := hdep 2 16 (by kernel_rfl) (by kernel_rfl)
            have d1 : ρ (.tmp 17) = .int .i64 (i : Int) := hdep 3 17 (by kernel_rfl) (by kernel_rfl)
            simp [go_sem, d0, d1, hil]
            exact ⟨Below.refl _ _, rfl⟩
          | 5, _, ho, hf, hg, hfr, hdep =>
            simp only [gTA, gCZ, gCS, gSI] at ho
            subst ho
            refine ⟨fun _ => ?_, fun hw => absurd (show true = false from hw) (by decide)⟩
            have d0 : ρ (.tmp 18) = .pointer (some ⟨ab, ao + i * 5, none⟩) := hdep 4 18 (by kernel_rfl) (by kernel_rfl)
            simp [go_sem, d0]
            exact ⟨Below.refl _ _, rfl⟩
          | 6, _, ho, hf, hg, hfr, hdep =>
            simp only [gTA, gCZ, gCS, gSI] at ho
            subst ho
            refine ⟨fun _ => ?_, fun hw => absurd (show true = false from hw) (by decide)⟩
            have cc : w'.cell? ⟨ab, ao + i * 5 + 1, none⟩ = some (.int .i64 tt) := cellN_later hC a1
            have d0 : ρ (.tmp 19) = .pointer (some ⟨ab, ao + i * 5 + 1, none⟩) := hdep 5 19 (by kernel_rfl) (by kernel_rfl)
            simp [go_sem, d0, cc]
            exact ⟨Below.refl _ _, rfl⟩
          | 7, _, ho, hf, hg, hfr, hdep =>
            simp only [gTA, gCZ, gCS, gSI] at ho
            subst ho
            refine ⟨fun _ => ?_, fun hw => absurd (show true = false from hw) (by decide)⟩
            have ts : ρ (.tmp 1) = .int .i64 v := hfr 1 (by kernel_rfl)
            simp [go_sem, ts]
            exact ⟨Below.refl _ _, rfl⟩
          | 8, _, ho, hf, hg, hfr, hdep =>
            simp only [gTA, gCZ, gCS, gSI] at ho
            subst ho
            refine ⟨fun _ => ?_, fun hw => absurd (show true = false from hw) (by decide)⟩
            have d0 : ρ (.tmp 20) = .int .i64 tt := hdep 6 20 (by kernel_rfl) (by kernel_rfl)
            have d1 : ρ (.tmp 21) = .int .i64 v := hdep 7 21 (by kernel_rfl) (by kernel_rfl)
            simp [go_sem, d0, d1, hbe]
            exact ⟨Below.refl _ _, rfl⟩
          | 9, _, ho, hf, hg, hfr, hdep =>
            simp only [gTA, gCZ, gCS, gSI] at ho
            subst ho
            refine ⟨fun _ => ?_, fun hw => absurd (show true = false from hw) (by decide)⟩
            have d0 : ρ (.tmp 22) = .bool false := hdep 8 22 (by kernel_rfl) (by kernel_rfl)
            simp [go_sem, d0]
            exact ⟨Below.refl _ _, rfl⟩
          | 10, _, ho, hf, hg, hfr, hdep =>
            simp only [gTA, gCZ, gCS, gSI] at ho
            subst ho
            have gd : ρ (.tmp 23) = .bool false := hdep 9 23 (by kernel_rfl) (by kernel_rfl)
            exact ⟨fun hw => absurd (show (match ρ (.tmp 23) with | .bool c => c == true | _ => false) = true from hw) (by rw [gd]; decide), fun _ => rfl⟩
          | 11, _, ho, hf, hg, hfr, hdep =>
            simp only [gTA, gCZ, gCS, gSI] at ho
            subst ho
            have gd : ρ (.tmp 23) = .bool false := hdep 9 23 (by kernel_rfl) (by kernel_rfl)
            exact ⟨fun hw => absurd (show (match ρ (.tmp 23) with | .bool c => c == true | _ => false) = true from hw) (by rw [gd]; decide), fun _ => rfl⟩
          | 12, _, ho, hf, hg, hfr, hdep =>
            simp only [gTA, gCZ, gCS, gSI] at ho
            subst ho
            have gd : ρ (.tmp 23) = .bool false := hdep 9 23 (by kernel_rfl) (by kernel_rfl)
            exact ⟨fun hw => absurd (show (match ρ (.tmp 23) with | .bool c => c == true | _ => false) = true from hw) (by rw [gd]; decide), fun _ => rfl⟩
          | 13, _, ho, hf, hg, hfr, hdep =>
            simp only [gTA, gCZ, gCS, gSI] at ho
            subst ho
            have gd : ρ (.tmp 23) = .bool false := hdep 9 23 (by kernel_rfl) (by kernel_rfl)
            exact ⟨fun hw => absurd (show (match ρ (.tmp 23) with | .bool c => c == true | _ => false) = true from hw) (by rw [gd]; decide), fun _ => rfl⟩
          | 14, _, ho, hf, hg, hfr, hdep =>
            simp only [gTA, gCZ, gCS, gSI] at ho
            subst ho
            have gd : ρ (.tmp 23) = .bool false := hdep 9 23 (by kernel_rfl) (by kernel_rfl)
            exact ⟨fun hw => absurd (show (match ρ (.tmp 23) with | .bool c => c == true | _ => false) = true from hw) (by rw [gd]; decide), fun _ => rfl⟩
          | 15, _, ho, hf, hg, hfr, hdep =>
            simp only [gTA, gCZ, gCS, gSI] at ho
            subst ho
            have gd : ρ (.tmp 23) = .bool false := hdep 9 23 (by kernel_rfl) (by kernel_rfl)
            exact ⟨fun hw => absurd (show (match ρ (.tmp 23) with | .bool c => c == true | _ => false) = true from hw) (by rw [gd]; decide), fun _ => rfl⟩
          | 16, _, ho, hf, hg, hfr, hdep =>
            simp only [gTA, gCZ, gCS, gSI] at ho
            subst ho
            have gd : ρ (.tmp 23) = .bool false := hdep 9 23 (by kernel_rfl) (by kernel_rfl)
            exact ⟨fun hw => absurd (show (match ρ (.tmp 23) with | .bool c => c == true | _ => false) = true from hw) (by rw [gd]; decide), fun _ => rfl⟩
          | 17, _, ho, hf, hg, hfr, hdep =>
            simp only [gTA, gCZ, gCS, gSI] at ho
            subst ho
            have gd : ρ (.tmp 23) = .bool false := hdep 9 23 (by kernel_rfl) (by kernel_rfl)
            exact ⟨fun hw => absurd (show (match ρ (.tmp 23) with | .bool c => c == true | _ => false) = true from hw) (by rw [gd]; decide), fun _ => rfl⟩
          | 18, _, ho, hf, hg, hfr, hdep =>
            simp only [gTA, gCZ, gCS, gSI] at ho
            subst ho
            have gd : ρ (.tmp 23) = .bool false := hdep 9 23 (by kernel_rfl) (by kernel_rfl)
            exact ⟨fun hw => absurd (show (match ρ (.tmp 23) with | .bool c => c == true | _ => false) = true from hw) (by rw [gd]; decide), fun _ => rfl⟩
          | 19, _, ho, hf, hg, hfr, hdep =>
            simp only [gTA, gCZ, gCS, gSI] at ho
            subst ho
            have gd : ρ (.tmp 23) = .bool false := hdep 9 23 (by kernel_rfl) (by kernel_rfl)
            exact ⟨fun hw => absurd (show (match ρ (.tmp 23) with | .bool c => c == true | _ => false) = true from hw) (by rw [gd]; decide), fun _ => rfl⟩
          | 20, _, ho, hf, hg, hfr, hdep =>
            simp only [gTA, gCZ, gCS, gSI] at ho
            subst ho
            have gd : ρ (.tmp 23) = .bool false := hdep 9 23 (by kernel_rfl) (by kernel_rfl)
            exact ⟨fun hw => absurd (show (match ρ (.tmp 23) with | .bool c => c == true | _ => false) = true from hw) (by rw [gd]; decide), fun _ => rfl⟩
          | 21, _, ho, hf, hg, hfr, hdep =>
            simp only [gTA, gCZ, gCS, gSI] at ho
            subst ho
            refine ⟨fun _ => ?_, fun hw => absurd (show true = false from hw) (by decide)⟩
            have d0 : ρ (.tmp 23) = .bool false := hdep 9 23 (by kernel_rfl) (by kernel_rfl)
            simp [go_sem, d0, hcs]
            exact ⟨Below.refl _ _, rfl⟩
          | n + 22, _, ho, _, _, _, _ => simp at ho
        · intro d i_ o ρ w' hm ho h0 hf hg hC hcs hfs hfr hdep
          exact absurd hm (by simp)
        · intro V w9 hC9 hS
          have e21 : V 21 = .bool false := hS 21 (by decide) (by intro h; cases h)
          simp only [puts, e21]
          simp only [Act.put, List.setIfInBounds_toArray, List.set_cons_zero, List.set_cons_succ]
          clear hS e21
          have B9 := hiddenN (B7.out.trans (hC9.mono B7.out.size))
          clear hC9
          go_wp2
          go_roundg (n.arcs.length - (i + 1))
          case measure => omega
          case rel => exact ⟨i + 1, by omega, rfl, by go_num, B9.out, HZ.out (fun e => htv e.1)⟩
    · have ei : i = n.arcs.length := by omega
      have hii : ¬ (i : Int) < (n.arcs.length : Int) := by omega
      have hz := hiddenN (short_never (n := n) (T := T) (v := v) (fun j hj => HNO.out j (by omega)))
      go_wp2
      go_ret
      rw [hz.out]
      exact ⟨rfl, B0.out.trans (B7.out.mono B0.out.size)⟩
theorem sizRS : (Try.prog.info? 50).map (·.size) = some 3 := by kernel_rfl
set_option maxRecDepth 100000 in
set_option maxHeartbeats 4000000 in
theorem rmay10_any {B : Nat} (w : World) (n : NN) (a : Option Addr) (c g N : Nat) (T F : List Int) (h : DocS B w n a g N F) (hI : InvN n T F) (v : Int) : Calls Try.prog 30 #[.agg #[.int .i64 n.nodes, .slice a n.arcs.length c, .slice (some ⟨g, 0, none⟩) N N], .int .i64 v] w fun e w' => e = .returned (.bool (mayN n T v)) ∧ Below w.heap.size w w' := by
  have ba := (Below.refl w.heap.size w).alloc (Nat.le_refl _) (.cells #[.int .i64 n.nodes, .slice a n.arcs.length c, .slice (some ⟨g, 0, none⟩) N N] 50)
  have X := hiddenN (blkA_new 50 w #[.int .i64 n.nodes, .slice a n.arcs.length c, .slice (some ⟨g, 0, none⟩) N N])
  have H := hiddenN (h.below ba)
  have B0 := hiddenN ba
  have ND : Hid (∀ s w1, Calls Try.prog 51 #[.agg #[.int .i64 n.nodes, s], .int .i64 v] w1 fun e w' => e = .returned (.bool (nodB n.nodes v)) ∧ Below w1.heap.size w1 w') := fun s w1 => rnode_any n.nodes v s w1
  have enb : nodB n.nodes v = nodeB n v := by
    unfold nodB nodeB
    by_cases h1 : 0 ≤ v <;> by_cases h2 : v < n.nodes <;> simp [h1, h2]
  rw [enb] at ND
  rw [may_iff]
  have hsc : decide (shortN n T v < 0) = decide (shortN n T v = -1) := by
    rcases short_cases n T v with e | e
    · rw [e]; rfl
    · rw [decide_eq_false (by omega), decide_eq_false (by omega)]
  rw [← hsc]
  have SH := hiddenN (fun (U : World) (hb : Below (w.alloc (.cells #[.int .i64 n.nodes, .slice a n.arcs.length c, .slice (some ⟨g, 0, none⟩) N N] 50)).heap.size (w.alloc (.cells #[.int .i64 n.nodes, .slice a n.arcs.length c, .slice (some ⟨g, 0, none⟩) N N] 50)) U) => rshort10_any U n a c g N T F (H.out.below hb) hI v)
  generalize shortN n T v = s at *
  generalize nodeB n v = b at *
  have x0 := X.out.cell (k := 0) rfl
  have x1 := X.out.cell (k := 1) rfl
  have x2 := X.out.cell (k := 2) rfl
  simp only [List.getElem_toArray, List.getElem_cons_zero, List.getElem_cons_succ] at x0 x1 x2
  clear ba h hI enb hsc H
  go_enter Try.func30, Try.ntmps30
  go_upto_region 1 with fail
  generalize w.alloc (.cells #[.int .i64 n.nodes, .slice a n.arcs.length c, .slice (some ⟨g, 0, none⟩) N N] 50) = W0 at *
  cases b with
  | false =>
    go_wp2_with (go_at_call 51; (with_reducible refine (ND.out _ _).mono ?_); rintro e U ⟨rfl, b1⟩; have B1 := hiddenN (B0.out.trans (b1.mono B0.out.size)); clear b1)
    go_ret
    exact ⟨by first | rfl | simp, B1.out⟩
  | true =>
    go_wp2_with (first
      | (go_at_call 51; (with_reducible refine (ND.out _ _).mono ?_); rintro e U ⟨rfl, b1⟩; have B1 := hiddenN (B0.out.trans (b1.mono B0.out.size)); have SU := hiddenN (SH.out _ b1); have X1 := hiddenN (X.out.below b1); clear b1 x0 x1 x2; have x0 := X1.out.cell (k := 0) rfl; have x1 := X1.out.cell (k := 1) rfl; have x2 := X1.out.cell (k := 2) rfl; simp only [List.getElem_toArray, List.getElem_cons_zero, List.getElem_cons_succ] at x0 x1 x2)
      | (go_at_call 18; (with_reducible refine SU.out.mono ?_); rintro e U2 ⟨rfl, b2⟩; have B2 := hiddenN (B1.out.trans (b2.mono B1.out.size)); clear b2))
    go_ret
    exact ⟨by first | rfl | simp, B2.out⟩
theorem DocS.but {B : Nat} {U : World} {n : NN} {a : Option Addr} {g N : Nat} {F : List Int} (h : DocS B U n a g N F) {q : Nat} {x : Int} (hx : -9223372036854775808 ≤ x ∧ x ≤ 9223372036854775807) : DocS B (U.setCell ⟨g, q, none⟩ (.int .i64 x)) n a g N (F.set q x) := by
  refine ⟨?_, h.fir.setAt x, by rw [List.length_set]; exact h.lF, h.nodes, h.sound, h.far, inR_setN h.inr hx⟩
  rcases h.arcs with e | ⟨b, off, e, hc⟩
  · exact .inl e
  · by_cases hne : n.arcs = []
    · exact .inl hne
    · have hb : b ≠ g := h.far _ e hne
      refine .inr ⟨b, off, e, fun k hk => ?_⟩
      obtain ⟨h0, h1, h2, h3, h4⟩ := hc k hk
      have key : ∀ j v, U.cell? ⟨b, j, none⟩ = some v → (U.setCell ⟨g, q, none⟩ (.int .i64 x)).cell? ⟨b, j, none⟩ = some v := fun j v hv => cell_block (Below.heap_setCell U ⟨g, q, none⟩ _ b hb) hv
      exact ⟨key _ _ h0, key _ _ h1, key _ _ h2, key _ _ h3, key _ _ h4⟩
set_option maxRecDepth 100000 in
set_option maxHeartbeats 16000000 in
theorem rfire10_any {B : Nat} (w : World) (n : NN) (a : Option Addr) (c g N : Nat) (T F : List Int) (h : DocS B w n a g N F) (hI : InvN n T F) (b : Option Addr) (cz : Nat) (zs : List Int) (hz : At w b zs) (hl : zs.length ≤ 4611686018427387904) (hK : ∀ x, b = some x → zs ≠ [] → x.block ≠ g) :
    Calls Try.prog 17 #[.agg #[.int .i64 n.nodes, .slice a n.arcs.length c, .slice (some ⟨g, 0, none⟩) N N], .slice b zs.length cz] w fun e w' => e = .returned (.int .i64 ((firesN n zs T F).1 : Int)) ∧ DocS B w' n a g N (firesN n zs T F).2.2 ∧ But g w w' := by
  obtain ⟨R, hR⟩ : ∃ R, firesN n zs T F = R := ⟨_, rfl⟩
  rw [hR]
  have ba := (Below.refl w.heap.size w).alloc (Nat.le_refl _) (.cells #[.int .i64 n.nodes, .slice a n.arcs.length c, .slice (some ⟨g, 0, none⟩) N N] 50)
  have X := hiddenN (blkA_new 50 w #[.int .i64 n.nodes, .slice a n.arcs.length c, .slice (some ⟨g, 0, none⟩) N N])
  have H := hiddenN (h.below ba)
  have B0 := hiddenN ba
  have HZ := hiddenN (hz.below ba)
  have hgw : g < w.heap.size := (h.fir.lt _ rfl).2
  have HSN := hiddenN h.sound
  obtain ⟨Nz, hNz⟩ : ∃ N, zs.length = N := ⟨_, rfl⟩
  rw [hNz] at hl ⊢
  clear ba h hz
  go_enter Try.func17, Try.ntmps17
  go_upto_region 1 with fail
  generalize w.alloc (.cells #[.int .i64 n.nodes, .slice a n.arcs.length c, .slice (some ⟨g, 0, none⟩) N N] 50) = W0 at *
  go_wp2
  go_loopg [5] Nz (fun gk u wr => ∃ (k : Nat) (T1 F1 : List Int), k ≤ Nz ∧ gk = Nz - k ∧ u = .int .i64 (k : Int) ∧ DocS B wr n a g N F1 ∧ InvN n T1 F1 ∧ But g W0 wr ∧ R = (k + (firesN n (zs.drop k) T1 F1).1, (firesN n (zs.drop k) T1 F1).2))
  case atStart => exact ⟨0, T, F, Nat.zero_le _, rfl, rfl, H.out, hI, But.of_below (Below.refl _ _), by rw [List.drop_zero, hR, Nat.zero_add]⟩
  case round =>
    clear H hI
    obtain ⟨k, T1, F1, hk, rfl, rfl, hD, hI1, hM, hE⟩ := hrel
    have HD := hiddenN hD
    have HI := hiddenN hI1
    have HM := hiddenN hM
    clear hD hI1 hM
    by_cases hlt : k < Nz
    · have hki : (k : Int) < (Nz : Int) := by omega
      have hkl : k < Nz := hlt
      have hne : zs ≠ [] := fun e => by rw [e] at hNz; simp at hNz; omega
      have XB := hiddenN (X.out.keep (HM.out.block _ X.out.lt (by omega)))
      have hzr : At wr b zs := HZ.out.keep fun x hx => HM.out.block _ (at_lt HZ.out hne hx) (hK x hx hne)
      rcases hzr with e | ⟨zb, zo, eb, hc⟩
      · exact absurd e hne
      subst eb
      have c0 := hc k (by omega)
      have x0 := XB.out.cell (k := 0) rfl
      have x1 := XB.out.cell (k := 1) rfl
      have x2 := XB.out.cell (k := 2) rfl
      simp only [List.getElem_toArray, List.getElem_cons_zero, List.getElem_cons_succ] at x0 x1 x2
      have hdr : zs.drop k = nth zs k :: zs.drop (k + 1) := by
        rw [List.drop_eq_getElem_cons (by omega)]
        unfold nth
        rw [List.getD_eq_getElem?_getD, List.getElem?_eq_getElem (by omega)]
        rfl
      rw [hdr] at hE
      unfold firesN at hE
      have MY0 := hiddenN (fun (U : World) (hb : Below wr.heap.size wr U) => rmay10_any U n a c g N T1 F1 (HD.out.below hb) HI.out (nth zs k))
      have MN := hiddenN (fun (e : mayN n T1 (nth zs k) = true) => may_node e)
      have HE := hiddenN hE
      clear hE hc hdr
      generalize nth zs k = v at *
      obtain ⟨bm, hbm⟩ : ∃ b, mayN n T1 v = b := ⟨_, rfl⟩
      rw [hbm] at MY0 HE MN
      have MY : Hid (∀ U, Below wr.heap.size wr U → Calls Try.prog 30 #[.agg #[.int .i64 n.nodes, .slice a n.arcs.length c, .slice (some ⟨g, 0, none⟩) N N], .int .i64 v] U fun e w' => e = .returned (.bool bm) ∧ Below U.heap.size U w') := fun U hb => MY0.out U hb
      have HBM := hiddenN hbm
      clear MY0 hbm
      go_upto_region 4 with fail
      refine wp_region_gen [] (fun d i u z => match i with
          | 0 => z = .agg #[.int .i64 n.nodes, .slice a n.arcs.length c, .slice (some ⟨g, 0, none⟩) N N]
          | 1 => z = .slice (some ⟨zb, zo, none⟩) Nz cz
          | 2 => z = .int .i64 (k : Int)
          | 3 => z = .pointer (some ⟨zb, zo + k, none⟩)
          | 4 => z = .int .i64 v
          | 5 => z = .bool bm
          | 6 => z = .bool (!bm)
          | _ => True) (fun _ u => Below wr.heap.size wr u) (by kernel_rfl) (by kernel_rfl) (by kernel_rfl) ?_ ?_ ?_ ?_ ?_ ?_ (by kernel_rfl)
      · intro d i w v w' h hb
        match i, h with
        | 0, h => exact h
        | 1, h => exact h
        | 2, h => exact h
        | 3, h => exact h
        | 4, h => exact h
        | 5, h => exact h
        | 6, h => exact h
        | _ + 7, _ => trivial
      · intro d u u' h hb
        exact h.trans (hb.mono h.size)
      · exact Below.refl _ _
      · intro d i o ρ w' hm ho hf hg hC hcs hfs hfr hdep
        match i, hm, ho, hf, hg, hfr, hdep with
        | 0, _, ho, hf, hg, hfr, hdep =>
          simp only [gTA, gCZ, gSI] at ho
          subst ho
          refine ⟨fun _ => ?_, fun hw => absurd (show true = false from hw) (by decide)⟩
          have ts : ρ (.tmp 2) = .pointer (some ⟨w.heap.size, 0, none⟩) := hfr 2 (by kernel_rfl)
          have k0 := cellN_later hC x0
          have k1 := cellN_later hC x1
          have k2 := cellN_later hC x2
          simp [go_sem, ts, k0, k1, k2]
          exact ⟨Below.refl _ _, rfl⟩
        | 1, _, ho, hf, hg, hfr, hdep =>
          simp only [gTA, gCZ, gCS, gSI] at ho
          subst ho
          refine ⟨fun _ => ?_, fun hw => absurd (show true = false from hw) (by decide)⟩
          have ts : ρ (.tmp 1) = .slice (some ⟨zb, zo, none⟩) Nz cz := hfr 1 (by kernel_rfl)
          simp [go_sem, ts]
          exact ⟨Below.refl _ _, rfl⟩
        | 2, _, ho, hf, hg, hfr, hdep =>
          simp only [gTA, gCZ, gCS, gSI] at ho
          subst ho
          refine ⟨fun _ => ?_, fun hw => absurd (show true = false from hw) (by decide)⟩
          have ts : ρ (.tmp 5) = .int .i64 (k : Int) := hfr 5 (by kernel_rfl)
          simp [go_sem, ts]
          exact ⟨Below.refl _ _, rfl⟩
        | 3, _, ho, hf, hg, hfr, hdep =>
          simp only [gTA, gCZ, gCS, gSI] at ho
          subst ho
          refine ⟨fun _ => ?_, fun hw => absurd (show true = false from hw) (by decide)⟩
          have d0 : ρ (.tmp 13) = .slice (some ⟨zb, zo, none⟩) Nz cz := hdep 1 13 (by kernel_rfl) (by kernel_rfl)
          have d1 : ρ (.tmp 14) = .int .i64 (k : Int) := hdep 2 14 (by kernel_rfl) (by kernel_rfl)
          simp [go_sem, d0, d1, hkl]
          exact ⟨Below.refl _ _, rfl⟩
        | 4, _, ho, hf, hg, hfr, hdep =>
          simp only [gTA, gCZ, gCS, gSI] at ho
          subst ho
          refine ⟨fun _ => ?_, fun hw => absurd (show true = false from hw) (by decide)⟩
          have cc : w'.cell? ⟨zb, zo + k, none⟩ = some (.int .i64 v) := cellN_later hC c0
          have d0 : ρ (.tmp 15) = .pointer (some ⟨zb, zo + k, none⟩) := hdep 3 15 (by kernel_rfl) (by kernel_rfl)
          simp [go_sem, d0, cc]
          exact ⟨Below.refl _ _, rfl⟩
        | 5, _, ho, hf, hg, hfr, hdep =>
          simp only [gTA, gCZ, gCS, gSI] at ho
          subst ho
          refine ⟨fun _ => ?_, fun hw => absurd (show true = false from hw) (by decide)⟩
          have d0 : ρ (.tmp 12) = .agg #[.int .i64 n.nodes, .slice a n.arcs.length c, .slice (some ⟨g, 0, none⟩) N N] := hdep 0 12 (by kernel_rfl) (by kernel_rfl)
          have d1 : ρ (.tmp 16) = .int .i64 v := hdep 4 16 (by kernel_rfl) (by kernel_rfl)
          simp [go_sem, d0, d1, hfs]
          exact ⟨rfl, (MY.out w' hC).mono fun e w'' hh => ⟨_, hh.1, hh.2, rfl⟩⟩
        | 6, _, ho, hf, hg, hfr, hdep =>
          simp only [gTA, gCZ, gCS, gSI] at ho
          subst ho
          refine ⟨fun _ => ?_, fun hw => absurd (show true = false from hw) (by decide)⟩
          have d0 : ρ (.tmp 17) = .bool bm := hdep 5 17 (by kernel_rfl) (by kernel_rfl)
          simp [go_sem, d0]
          exact ⟨Below.refl _ _, rfl⟩
        | n + 7, _, ho, _, _, _, _ => simp at ho
      · intro d i o ρ w' hm ho h0 hf hg hC hcs hfs hfr hdep
        exact absurd hm (by simp)
      · intro V w9 hC9 hS
        have e6 : V 6 = .bool (!bm) := hS 6 (by decide) (by intro h; cases h)
        simp only [puts, e6]
        simp only [Act.put, List.setIfInBounds_toArray, List.set_cons_zero, List.set_cons_succ]
        clear hS e6
        have hb9 := hC9
        have D9 := hiddenN (HD.out.below hb9)
        have M9 := hiddenN (HM.out.trans (But.of_below hb9))
        cases bm with
        | false =>
          rw [if_neg (by decide)] at HE
          clear hC9 hb9
          go_wp2
          go_ret
          rw [HE.out]
          exact ⟨by simp, D9.out, (But.of_below B0.out).trans M9.out⟩
        | true =>
          rw [if_pos rfl] at HE
          have hnode := MN.out rfl
          have hv : 0 ≤ v ∧ v < n.nodes := of_decide_eq_true hnode
          obtain ⟨vn, rfl⟩ : ∃ k : Nat, v = (k : Int) := ⟨v.toNat, by omega⟩
          have hvN : vn < N := by have := D9.out.nodes; omega
          have I2 := hiddenN (fire_inv HSN.out HI.out hnode)
          have cg := D9.out.cell hvN
          have fg := D9.out.fir.fz vn
          have X9 := hiddenN (XB.out.below hb9)
          have c9 := cellN_later hb9 c0
          have eF : F1.set vn (wrap64 (nth F1 vn + 1)) = bumpF F1 (vn : Int) := by unfold bumpF; rw [Int.toNat_natCast]
          clear x0 x1 x2 c0 hC9 hb9
          have x2 := X9.out.cell (k := 2) rfl
          simp only [List.getElem_toArray, List.getElem_cons_zero, List.getElem_cons_succ] at x2
          have c0 := c9
          clear c9
          obtain ⟨wr2, hw2⟩ : ∃ W, w9 = W := ⟨_, rfl⟩
          rw [hw2] at D9 M9 X9 cg fg x2 c0 ⊢
          have DF : Hid (∀ U, Below wr2.heap.size wr2 U → U.cell? ⟨g, vn, none⟩ = some (.int .i64 (nth F1 vn)) ∧ U.frozen? ⟨g, vn, none⟩ = false ∧ DocS B (U.setCell ⟨g, vn, none⟩ (.int .i64 (wrap64 (nth F1 vn + 1)))) n a g N (bumpF F1 (vn : Int)) ∧ But g W0 (U.setCell ⟨g, vn, none⟩ (.int .i64 (wrap64 (nth F1 vn + 1))))) := fun U hb => by
            have q := D9.out.below hb
            refine ⟨q.cell hvN, q.fir.fz vn, ?_, (M9.out.trans (But.of_below hb)).trans (But.set U g vn _)⟩
            rw [← eF]
            exact q.but (wrap64_in _)
          generalize nth F1 vn = xg at *
          clear hw2 eF D9 M9 fg X9 hv hnode
          go_upto_region 6 with fail
          refine wp_region_said 15 (fun i u v => match i with
              | 0 => v = .pointer (some ⟨w.heap.size, 2, none⟩)
              | 1 => v = .slice (some ⟨g, 0, none⟩) N N
              | 2 => v = .slice (some ⟨zb, zo, none⟩) Nz cz
              | 3 => v = .int .i64 (k : Int)
              | 4 => v = .pointer (some ⟨zb, zo + k, none⟩)
              | 5 => v = .int .i64 (vn : Int)
              | 6 => v = .pointer (some ⟨w.heap.size, 2, none⟩)
              | 7 => v = .slice (some ⟨g, 0, none⟩) N N
              | 8 => v = .slice (some ⟨zb, zo, none⟩) Nz cz
              | 9 => v = .int .i64 (k : Int)
              | 10 => v = .pointer (some ⟨zb, zo + k, none⟩)
              | 11 => v = .int .i64 (vn : Int)
              | 12 => v = .pointer (some ⟨g, vn, none⟩)
              | 13 => v = .int .i64 xg
              | 14 => v = .int .i64 (wrap64 (xg + 1))
              | _ => True) (by kernel_rfl) (by kernel_rfl) (by kernel_rfl) (by kernel_rfl) ?_ ?_ ?_
          · intro i w v w' h hb
            match i, h with
            | 0, h => exact h
            | 1, h => exact h
            | 2, h => exact h
            | 3, h => exact h
            | 4, h => exact h
            | 5, h => exact h
            | 6, h => exact h
            | 7, h => exact h
            | 8, h => exact h
            | 9, h => exact h
            | 10, h => exact h
            | 11, h => exact h
            | 12, h => exact h
            | 13, h => exact h
            | 14, h => exact h
            | _ + 15, _ => trivial
          · intro i o ρ w' hi ho hb hc hf hfr hdep
            have k2 := cellN_later hb x2
            have kz := cellN_later hb c0
            have kg := cellN_later hb cg
            match i, hi with
            | 0, _ =>
              simp only [gTA, gCZ, gSI] at ho
              subst ho
              have ts : ρ (.tmp 2) = .pointer (some ⟨w.heap.size, 0, none⟩) := hfr 2 (by kernel_rfl)
              simp [go_sem, ts]
              exact ⟨Below.refl _ _, rfl⟩
            | 1, _ =>
              simp only [gTA, gCZ, gCS, gSI] at ho
              subst ho
              have ts : ρ (.tmp 20) = .pointer (some ⟨w.heap.size, 2, none⟩) := hdep 0 20 (by kernel_rfl) (by kernel_rfl)
              simp [go_sem, ts, k2]
              exact ⟨Below.refl _ _, rfl⟩
            | 2, _ =>
              simp only [gTA, gCZ, gCS, gSI] at ho
              subst ho
              have ts : ρ (.tmp 1) = .slice (some ⟨zb, zo, none⟩) Nz cz := hfr 1 (by kernel_rfl)
              simp [go_sem, ts]
              exact ⟨Below.refl _ _, rfl⟩
            | 3, _ =>
              simp only [gTA, gCZ, gCS, gSI] at ho
              subst ho
              have ts : ρ (.tmp 5) = .int .i64 (k : Int) := hfr 5 (by kernel_rfl)
              simp [go_sem, ts]
              exact ⟨Below.refl _ _, rfl⟩
            | 4, _ =>
              simp only [gTA, gCZ, gCS, gSI] at ho
              subst ho
              have t0 : ρ (.tmp 22) = .slice (some ⟨zb, zo, none⟩) Nz cz := hdep 2 22 (by kernel_rfl) (by kernel_rfl)
              have t1 : ρ (.tmp 23) = .int .i64 (k : Int) := hdep 3 23 (by kernel_rfl) (by kernel_rfl)
              simp [go_sem, t0, t1, hkl]
              exact ⟨Below.refl _ _, rfl⟩
            | 5, _ =>
              simp only [gTA, gCZ, gCS, gSI] at ho
              subst ho
              have ts : ρ (.tmp 24) = .pointer (some ⟨zb, zo + k, none⟩) := hdep 4 24 (by kernel_rfl) (by kernel_rfl)
              simp [go_sem, ts, kz]
              exact ⟨Below.refl _ _, rfl⟩
            | 6, _ =>
              simp only [gTA, gCZ, gCS, gSI] at ho
              subst ho
              have ts : ρ (.tmp 2) = .pointer (some ⟨w.heap.size, 0, none⟩) := hfr 2 (by kernel_rfl)
              simp [go_sem, ts]
              exact ⟨Below.refl _ _, rfl⟩
            | 7, _ =>
              simp only [gTA, gCZ, gCS, gSI] at ho
              subst ho
              have ts : ρ (.tmp 26) = .pointer (some ⟨w.heap.size, 2, none⟩) := hdep 6 26 (by kernel_rfl) (by kernel_rfl)
              simp [go_sem, ts, k2]
              exact ⟨Below.refl _ _, rfl⟩
            | 8, _ =>
              simp only [gTA, gCZ, gCS, gSI] at ho
              subst ho
              have ts : ρ (.tmp 1) = .slice (some ⟨zb, zo, none⟩) Nz cz := hfr 1 (by kernel_rfl)
              simp [go_sem, ts]
              exact ⟨Below.refl _ _, rfl⟩
            | 9, _ =>
              simp only [gTA, gCZ, gCS, gSI] at ho
              subst ho
              have ts : ρ (.tmp 5) = .int .i64 (k : Int) := hfr 5 (by kernel_rfl)
              simp [go_sem, ts]
              exact ⟨Below.refl _ _, rfl⟩
            | 10, _ =>
              simp only [gTA, gCZ, gCS, gSI] at ho
              subst ho
              have t0 : ρ (.tmp 28) = .slice (some ⟨zb, zo, none⟩) Nz cz := hdep 8 28 (by kernel_rfl) (by kernel_rfl)
              have t1 : ρ (.tmp 29) = .int .i64 (k : Int) := hdep 9 29 (by kernel_rfl) (by kernel_rfl)
              simp [go_sem, t0, t1, hkl]
              exact ⟨Below.refl _ _, rfl⟩
            | 11, _ =>
              simp only [gTA, gCZ, gCS, gSI] at ho
              subst ho
              have ts : ρ (.tmp 30) = .pointer (some ⟨zb, zo + k, none⟩) := hdep 10 30 (by kernel_rfl) (by kernel_rfl)
              simp [go_sem, ts, kz]
              exact ⟨Below.refl _ _, rfl⟩
            | 12, _ =>
              simp only [gTA, gCZ, gCS, gSI] at ho
              subst ho
              have t0 : ρ (.tmp 27) = .slice (some ⟨g, 0, none⟩) N N := hdep 7 27 (by kernel_rfl) (by kernel_rfl)
              have t1 : ρ (.tmp 31) = .int .i64 (vn : Int) := hdep 11 31 (by kernel_rfl) (by kernel_rfl)
              simp [go_sem, t0, t1, hvN]
              exact ⟨Below.refl _ _, rfl⟩
            | 13, _ =>
              simp only [gTA, gCZ, gCS, gSI] at ho
              subst ho
              have ts : ρ (.tmp 32) = .pointer (some ⟨g, vn, none⟩) := hdep 12 32 (by kernel_rfl) (by kernel_rfl)
              simp [go_sem, ts, kg]
              exact ⟨Below.refl _ _, rfl⟩
            | 14, _ =>
              simp only [gTA, gCZ, gCS, gSI] at ho
              subst ho
              have t0 : ρ (.tmp 33) = .int .i64 xg := hdep 13 33 (by kernel_rfl) (by kernel_rfl)
              simp [go_sem, t0, hc, wrapN]
              exact ⟨Below.refl _ _, rfl⟩
          · intro V w9 q9 hS
            have e0 : V 0 = .pointer (some ⟨w.heap.size, 2, none⟩) := hS 0 (by decide)
            have e1 : V 1 = .slice (some ⟨g, 0, none⟩) N N := hS 1 (by decide)
            have e2 : V 2 = .slice (some ⟨zb, zo, none⟩) Nz cz := hS 2 (by decide)
            have e3 : V 3 = .int .i64 (k : Int) := hS 3 (by decide)
            have e4 : V 4 = .pointer (some ⟨zb, zo + k, none⟩) := hS 4 (by decide)
            have e5 : V 5 = .int .i64 (vn : Int) := hS 5 (by decide)
            have e6 : V 6 = .pointer (some ⟨w.heap.size, 2, none⟩) := hS 6 (by decide)
            have e7 : V 7 = .slice (some ⟨g, 0, none⟩) N N := hS 7 (by decide)
            have e8 : V 8 = .slice (some ⟨zb, zo, none⟩) Nz cz := hS 8 (by decide)
            have e9 : V 9 = .int .i64 (k : Int) := hS 9 (by decide)
            have e10 : V 10 = .pointer (some ⟨zb, zo + k, none⟩) := hS 10 (by decide)
            have e11 : V 11 = .int .i64 (vn : Int) := hS 11 (by decide)
            have e12 : V 12 = .pointer (some ⟨g, vn, none⟩) := hS 12 (by decide)
            have e13 : V 13 = .int .i64 xg := hS 13 (by decide)
            have e14 : V 14 = .int .i64 (wrap64 (xg + 1)) := hS 14 (by decide)
            simp only [List.drop_succ_cons, List.drop_zero, List.take_succ_cons, List.take_zero, puts, e0, e1, e2, e3, e4, e5, e6, e7, e8, e9, e10, e11, e12, e13, e14]
            clear hS e0 e1 e2 e3 e4 e5 e6 e7 e8 e9 e10 e11 e12 e13 e14 V
            obtain ⟨cgg, fgg, DD, BB⟩ := DF.out _ q9
            have DDh := hiddenN DD
            have BBh := hiddenN BB
            clear DD BB DF q9
            go_wp2
            go_roundg (Nz - (k + 1))
            case measure => omega
            case rel => exact ⟨k + 1, _, _, by omega, rfl, by go_num, DDh.out, I2.out, BBh.out, by rw [HE.out]; simp; omega⟩
    · have ek : k = Nz := by omega
      subst ek
      have hki : ¬ (k : Int) < (k : Int) := by omega
      have hd : zs.drop k = [] := List.drop_eq_nil_of_le (by omega)
      rw [hd] at hE
      have HE := hiddenN hE
      clear hE hd
      go_wp2
      go_ret
      rw [HE.out]
      exact ⟨by simp [firesN], HD.out, (But.of_below B0.out).trans HM.out⟩
set_option maxRecDepth 100000 in
set_option maxHeartbeats 8000000 in
theorem rstart10_any (w : World) (n : NN) (a : Option Addr) (c N : Nat) (hS : SoundN n) (hN : n.nodes = (N : Int)) (h : AtN w a n.arcs) (hfar : ∀ x, a = some x → n.arcs ≠ [] → x.block < w.heap.size) : Calls Try.prog 15 #[.agg #[.int .i64 n.nodes, .slice a n.arcs.length c]] w fun e w' => ∃ g, e = .returned (.agg #[.int .i64 n.nodes, .slice a n.arcs.length c, .slice (some ⟨g, 0, none⟩) N N]) ∧ DocS w.heap.size w' n a g N (List.replicate N 0) ∧ Below w.heap.size w w' := by
  have b0 := (Below.refl w.heap.size w).alloc (Nat.le_refl _) (.cells #[.int .i64 n.nodes, .slice a n.arcs.length c] 24)
  have b1 := b0.alloc b0.size (.cells #[.int .i64 0, .slice none 0 0, .slice none 0 0] 50)
  have g0 := (blkA_new 24 w #[.int .i64 n.nodes, .slice a n.arcs.length c]).below ((Below.refl _ _).alloc (Nat.le_refl _) (.cells #[.int .i64 0, .slice none 0 0, .slice none 0 0] 50))
  have G1 := hiddenN (blkA_new 50 (w.alloc (.cells #[.int .i64 n.nodes, .slice a n.arcs.length c] 24)) #[.int .i64 0, .slice none 0 0, .slice none 0 0])
  have hsz : (w.alloc (.cells #[.int .i64 n.nodes, .slice a n.arcs.length c] 24)).heap.size = w.heap.size + 1 := World.size_alloc _ _
  rw [hsz] at G1
  have x0 := g0.cell (k := 0) rfl
  have x1 := g0.cell (k := 1) rfl
  simp only [List.getElem_toArray, List.getElem_cons_zero, List.getElem_cons_succ] at x0 x1
  have B1 := hiddenN b1
  have HA := hiddenN h
  have hN0 := hiddenN hN
  have hnn := hS.nodes
  have hN32 : 1 ≤ N ∧ N ≤ 32 := by omega
  have HSN := hiddenN hS
  have HM := hiddenN (run_make_row' (P := Try.prog) 25 3 (.int .i64 0) 8 Try.underlying25 Try.info3 rfl .i64 .i64 N (by omega) (by omega))
  clear b0 b1 g0 h hN hnn hS
  go_enter Try.func15, Try.ntmps15
  go_upto_region 1 with fail
  generalize (w.alloc (.cells #[.int .i64 n.nodes, .slice a n.arcs.length c] 24)).alloc (.cells #[.int .i64 0, .slice none 0 0, .slice none 0 0] 50) = V0 at *
  refine wp_region_gen [5] (fun d i u z => match i with
      | 0 => z = .agg #[.int .i64 n.nodes, .slice a n.arcs.length c]
      | 1 => z = .pointer (some ⟨w.heap.size, 0, none⟩)
      | 2 => z = .int .i64 (N : Int)
      | 3 => (d 5 = false → ∃ g, z = .slice (some ⟨g, 0, none⟩) N N ∧ CapR V0.heap.size u (some ⟨g, 0, none⟩) N (List.replicate N 0))
      | 4 => (d 5 = false → ∃ g, z = .agg #[.int .i64 n.nodes, .slice a n.arcs.length c, .slice (some ⟨g, 0, none⟩) N N] ∧ CapR V0.heap.size u (some ⟨g, 0, none⟩) N (List.replicate N 0))
      | 5 => True
      | _ => True) (fun d u => (d 5 = false → Below V0.heap.size V0 u) ∧ (d 5 = true → ∃ g, BlkA 50 (w.heap.size + 1) u #[.int .i64 n.nodes, .slice a n.arcs.length c, .slice (some ⟨g, 0, none⟩) N N] ∧ CapR V0.heap.size u (some ⟨g, 0, none⟩) N (List.replicate N 0) ∧ V0.heap.size ≤ u.heap.size ∧ But (w.heap.size + 1) V0 u)) (by kernel_rfl) (by kernel_rfl) (by kernel_rfl) ?_ ?_ ?_ ?_ ?_ ?_ (by kernel_rfl)
  · intro d i w v w' h hb
    match i, h with
    | 0, h => exact h
    | 1, h => exact h
    | 2, h => exact h
    | 3, h => exact fun e => by obtain ⟨g, h1, h2⟩ := h e; exact ⟨g, h1, h2.later hb⟩
    | 4, h => exact fun e => by obtain ⟨g, h1, h2⟩ := h e; exact ⟨g, h1, h2.later hb⟩
    | 5, h => exact h
    | _ + 6, _ => trivial
  · intro d u u' h hb
    exact ⟨fun e => (h.1 e).trans (hb.mono (h.1 e).size), fun e => by obtain ⟨g, h1, h2, h3, h4⟩ := h.2 e; exact ⟨g, h1.below hb, h2.later hb, Nat.le_trans h3 hb.size, h4.trans (But.of_below hb)⟩⟩
  · exact ⟨fun _ => Below.refl _ _, fun e => absurd e (by decide)⟩
  · intro d i o ρ w' hm ho hf hg hC hcs hfs hfr hdep
    match i, hm, ho, hf, hg, hfr, hdep with
    | 0, _, ho, hf, hg, hfr, hdep =>
      simp only [gTA, gCZ, gSI] at ho
      subst ho
      refine ⟨fun _ => ?_, fun hw => absurd (show true = false from hw) (by decide)⟩
      have ts : ρ (.tmp 1) = .pointer (some ⟨w.heap.size, 0, none⟩) := hfr 1 (by kernel_rfl)
      have h5 : d 5 = false := hf 5 (by decide) (by kernel_rfl)
      have k0 := cellN_later (hC.1 h5) x0
      have k1 := cellN_later (hC.1 h5) x1
      simp [go_sem, ts, k0, k1]
      exact ⟨Below.refl _ _, rfl⟩
    | 1, _, ho, hf, hg, hfr, hdep =>
      simp only [gTA, gCZ, gCS, gSI] at ho
      subst ho
      refine ⟨fun _ => ?_, fun hw => absurd (show true = false from hw) (by decide)⟩
      have ts : ρ (.tmp 1) = .pointer (some ⟨w.heap.size, 0, none⟩) := hfr 1 (by kernel_rfl)
      simp [go_sem, ts]
      exact ⟨Below.refl _ _, rfl⟩
    | 2, _, ho, hf, hg, hfr, hdep =>
      simp only [gTA, gCZ, gCS, gSI] at ho
      subst ho
      refine ⟨fun _ => ?_, fun hw => absurd (show true = false from hw) (by decide)⟩
      have h5 : d 5 = false := hf 5 (by decide) (by kernel_rfl)
      have k0 := cellN_later (hC.1 h5) x0
      have d0 : ρ (.tmp 4) = .pointer (some ⟨w.heap.size, 0, none⟩) := hdep 1 4 (by kernel_rfl) (by kernel_rfl)
      simp [go_sem, d0, k0, hN0.out]
      exact ⟨Below.refl _ _, rfl⟩
    | 3, _, ho, hf, hg, hfr, hdep =>
      simp only [gTA, gCZ, gCS, gSI] at ho
      subst ho
      refine ⟨fun _ => ?_, fun hw => absurd (show true = false from hw) (by decide)⟩
      have d0 : ρ (.tmp 5) = .int .i64 (N : Int) := hdep 2 5 (by kernel_rfl) (by kernel_rfl)
      have h5 : d 5 = false := hf 5 (by decide) (by kernel_rfl)
      simp [go_sem, d0, HM.out]
      exact ⟨(Below.refl _ _).alloc (Nat.le_refl _) _, fun _ => ⟨w'.heap.size, rfl, made_ownN w' N (by omega) (hC.1 h5).size⟩⟩
    | 4, _, ho, hf, hg, hfr, hdep =>
      simp only [gTA, gCZ, gCS, gSI] at ho
      subst ho
      refine ⟨fun _ => ?_, fun hw => absurd (show true = false from hw) (by decide)⟩
      have d0 : ρ (.tmp 3) = .agg #[.int .i64 n.nodes, .slice a n.arcs.length c] := hdep 0 3 (by kernel_rfl) (by kernel_rfl)
      have h5 : d 5 = false := hf 5 (by decide) (by kernel_rfl)
      obtain ⟨g, d1, r1⟩ : ∃ g, ρ (.tmp 6) = .slice (some ⟨g, 0, none⟩) N N ∧ CapR V0.heap.size w' (some ⟨g, 0, none⟩) N (List.replicate N 0) := hdep 3 6 (by kernel_rfl) (by kernel_rfl) h5
      simp [go_sem, d0, d1]
      exact ⟨Below.refl _ _, fun _ => ⟨g, rfl, r1⟩⟩
    | 5, hm, _, _, _, _, _ => exact absurd hm (by decide)
    | n + 6, _, ho, _, _, _, _ => simp at ho
  · intro d i o ρ w' hm ho h0 hf hg hC hcs hfs hfr hdep
    match i, hm, ho, h0, hf, hg, hfr, hdep with
    | 0, hm, _, _, _, _, _, _ => exact absurd hm (by decide)
    | 1, hm, _, _, _, _, _, _ => exact absurd hm (by decide)
    | 2, hm, _, _, _, _, _, _ => exact absurd hm (by decide)
    | 3, hm, _, _, _, _, _, _ => exact absurd hm (by decide)
    | 4, hm, _, _, _, _, _, _ => exact absurd hm (by decide)
    | 5, _, ho, h0, hf, hg, hfr, hdep =>
      simp only [gTA, gCZ, gCS, gSI] at ho
      subst ho
      have ts : ρ (.tmp 2) = .pointer (some ⟨w.heap.size + 1, 0, none⟩) := hfr 2 (by kernel_rfl)
      obtain ⟨g, d1, r1⟩ : ∃ g, ρ (.tmp 7) = .agg #[.int .i64 n.nodes, .slice a n.arcs.length c, .slice (some ⟨g, 0, none⟩) N N] ∧ CapR V0.heap.size w' (some ⟨g, 0, none⟩) N (List.replicate N 0) := hdep 4 7 (by kernel_rfl) (by kernel_rfl) h0
      have hb5 := hC.1 h0
      refine ⟨rfl, mark_storeN 50 (.tmp 2) (.tmp 7) rfl (w.heap.size + 1) 50 _ _ ts d1 (G1.out.below hb5) sizRS rfl rfl ?_⟩
      intro w'' hs1 hb1
      refine ⟨⟨fun e => absurd e (by rw [doneAt_eq]; decide), fun _ => ⟨g, hs1, r1.keep (fun x hx => by cases hx; exact hb1.block _ (r1.lt _ rfl).2 (by show g ≠ w.heap.size + 1; have q1 := (r1.lt _ rfl).1; simp only at q1; have := G1.out.lt; omega)), Nat.le_trans hb5.size hb1.size, (But.of_below hb5).trans hb1⟩⟩, fun h => absurd rfl h, ?_⟩
      intro j t hj hs
      match j, hs with
      | 0, hs => exact hs
      | 1, hs => exact hs
      | 2, hs => exact hs
      | 3, _ => exact fun e => absurd e (by rw [doneAt_eq]; decide)
      | 4, _ => exact fun e => absurd e (by rw [doneAt_eq]; decide)
      | 5, _ => trivial
      | _ + 6, _ => trivial
    | n + 6, _, ho, _, _, _, _, _ => simp at ho
  · intro V w9 hC9 hS
    simp only [puts, put_none]
    simp only [Act.put, List.setIfInBounds_toArray, List.set_cons_zero, List.set_cons_succ]
    clear hS 
    obtain ⟨g, hblk, hrow, hsz9, hbut⟩ := hC9.2 rfl
    have hV0 := G1.out.lt
    have hBw := hiddenN (B1.out.trans (hbut.below (Nat.le_succ _) B1.out.size))
    have hgV := (hrow.lt _ rfl).1
    simp only at hgV
    have inr0 : InR (List.replicate N (0 : Int)) := fun k => by
      unfold nth
      rw [List.getD_eq_getElem?_getD]
      by_cases hk : k < N
      · rw [List.getElem?_replicate, if_pos hk]; exact ⟨by decide, by decide⟩
      · rw [List.getElem?_replicate, if_neg hk]; exact ⟨by decide, by decide⟩
    have DD : Hid (DocS w.heap.size w9 n a g N (List.replicate N 0)) := ⟨HA.out.below hBw.out, hrow.mono (by omega), List.length_replicate, hN0.out, HSN.out, fun x hx hne => by have := hfar x hx hne; omega, inr0⟩
    have t0 := hblk.cell (k := 0) rfl
    have t1 := hblk.cell (k := 1) rfl
    have t2 := hblk.cell (k := 2) rfl
    simp only [List.getElem_toArray, List.getElem_cons_zero, List.getElem_cons_succ] at t0 t1 t2
    clear hC9 hblk hrow hbut
    go_wp2
    refine bodyPost_ret (v := .agg #[.int .i64 n.nodes, .slice a n.arcs.length c, .slice (some ⟨g, 0, none⟩) N N]) (by simp [results, Try.results15, go_sem, t0, t1, t2]) rfl ?_
    exact ⟨g, rfl, DD.out, hBw.out⟩
end Go.Proofs.Ytigodedloogbcaa
