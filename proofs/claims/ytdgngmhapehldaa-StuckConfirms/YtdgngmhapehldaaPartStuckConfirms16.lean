/- Texts of one chain, laid one behind the other. -/
import Derived.Test.YtdgngmhapehldaaPartStuckConfirms15
import Derived.Test.YtdgngmhapehldaaPartStuckConfirms7
import Derived.Test.YtdgngmhapehldaaPartStuckConfirms12
import Derived.Laws.AppendOwnNone
namespace Go.Proofs.Ytdgngmhapehldaa
open Go.ChangeShapes Go.WideShapes Go.ChangeAt Go.RowKit
theorem sizNet : (Try.prog.info? 24).map (·.size) = some 2 := by kernel_rfl
def nodB (m v : Int) : Bool := decide (0 ≤ v) && decide (v < m)
def ratB (k : Int) : Bool := decide (1 ≤ k) && decide (k ≤ 64)
set_option maxRecDepth 100000 in
theorem rnode_any (m v : Int) (s : Value) (w : World) : Calls Try.prog 30 #[.agg #[.int .i64 m, s], .int .i64 v] w fun e w' => e = .returned (.bool (nodB m v)) ∧ Below w.heap.size w w' := by
  have ba := hiddenN ((Below.refl w.heap.size w).alloc (Nat.le_refl _) (.cells #[.int .i64 m, s] 24))
  have z0 := (blkA_new 24 w #[.int .i64 m, s]).cell (k := 0) rfl
  simp only [List.getElem_toArray, List.getElem_cons_zero] at z0
  unfold nodB
  by_cases h1 : 0 ≤ v
  · rw [decide_eq_true h1]
    by_cases h2 : v < m
    · rw [decide_eq_true h2]
      go_enter Try.func30, Try.ntmps30
      go_wp2
      go_ret
      exact ⟨rfl, ba.out⟩
    · rw [decide_eq_false h2]
      go_enter Try.func30, Try.ntmps30
      go_wp2
      go_ret
      exact ⟨rfl, ba.out⟩
  · rw [decide_eq_false h1]
    go_enter Try.func30, Try.ntmps30
    go_wp2
    go_ret
    exact ⟨rfl, ba.out⟩
theorem rrate_any (k : Int) (w : World) : Calls Try.prog 31 #[.int .i64 k] w fun e w' => e = .returned (.bool (ratB k)) ∧ w' = w := by
  unfold ratB
  by_cases h1 : 1 ≤ k
  · rw [decide_eq_true h1]
    by_cases h2 : k ≤ 64
    · rw [decide_eq_true h2]
      go_enter Try.func31, Try.ntmps31
      go_wp2
      go_ret
      exact ⟨rfl, rfl⟩
    · rw [decide_eq_false h2]
      go_enter Try.func31, Try.ntmps31
      go_wp2
      go_ret
      exact ⟨rfl, rfl⟩
  · rw [decide_eq_false h1]
    go_enter Try.func31, Try.ntmps31
    go_wp2
    go_ret
    exact ⟨rfl, rfl⟩
theorem nodB_false {m v : Int} : nodB m v = false ↔ ¬ (0 ≤ v ∧ v < m) := by unfold nodB; rw [← Bool.not_eq_true]; simp
theorem ratB_false {k : Int} : ratB k = false ↔ ¬ (1 ≤ k ∧ k ≤ 64) := by unfold ratB; rw [← Bool.not_eq_true]; simp
theorem arcE_ref (m : Int) (a : NA) : arcE m a = if nodB m a.f = false then 100 else if nodB m a.t = false then 100 else if ratB a.g = false then 101 else if ratB a.k = false then 101 else if a.s < 0 then 88 else if 256 < a.s then 88 else 0 := by
  unfold arcE
  simp only [nodB_false, ratB_false]
  repeat' split
  all_goals first | rfl | omega
set_option maxRecDepth 100000 in
set_option maxHeartbeats 16000000 in
theorem rcheck10_any (n : NN) (a : Option Addr) (c : Nat) (w : World) (h : AtN w a n.arcs) (hl : n.arcs.length ≤ 4611686018427387904) : Calls Try.prog 21 #[.agg #[.int .i64 n.nodes, .slice a n.arcs.length c]] w fun e w' => e = .returned (.int .i64 (checkN n)) ∧ Below w.heap.size w w' := by
  obtain ⟨m, L⟩ := n
  simp only at *
  have ba := (Below.refl w.heap.size w).alloc (Nat.le_refl _) (.cells #[.int .i64 m, .slice a L.length c] 24)
  have g0 := hiddenN (blkA_new 24 w #[.int .i64 m, .slice a L.length c])
  have HA := hiddenN (h.below ba)
  have BA := hiddenN ba
  clear h ba
  obtain ⟨N, hN⟩ : ∃ N, L.length = N := ⟨_, rfl⟩
  rw [hN] at g0 HA BA hl ⊢
  have y0 := g0.out.cell (k := 0) rfl
  have y1 := g0.out.cell (k := 1) rfl
  simp only [List.getElem_toArray, List.getElem_cons_zero, List.getElem_cons_succ] at y0 y1
  by_cases c1 : m < 1
  · have e1 : checkN ⟨m, L⟩ = 100 := by unfold checkN; rw [if_pos (by show m < 1 ∨ 32 < m; omega)]
    rw [e1]
    go_enter Try.func21, Try.ntmps21
    go_wp2
    go_ret
    exact ⟨rfl, BA.out⟩
  by_cases c2 : 32 < m
  · have e1 : checkN ⟨m, L⟩ = 100 := by unfold checkN; rw [if_pos (by show m < 1 ∨ 32 < m; omega)]
    rw [e1]
    go_enter Try.func21, Try.ntmps21
    go_wp2
    go_ret
    exact ⟨rfl, BA.out⟩
  by_cases c3 : 96 < N
  · have e1 : checkN ⟨m, L⟩ = 81 := by unfold checkN; rw [if_neg (by show ¬ (m < 1 ∨ 32 < m); omega), if_pos (by show 96 < L.length; omega)]
    rw [e1]
    have hk : (96 : Int) < (N : Int) := by omega
    go_enter Try.func21, Try.ntmps21
    go_wp2
    go_ret
    exact ⟨rfl, BA.out⟩
  have e1 : checkN ⟨m, L⟩ = arcsE m L := by unfold checkN; rw [if_neg (by show ¬ (m < 1 ∨ 32 < m); omega), if_neg (by show ¬ 96 < L.length; omega)]
  rw [e1]
  have hk : ¬ (96 : Int) < (N : Int) := by omega
  have ND : Hid (∀ m v s w1, Calls Try.prog 30 #[.agg #[.int .i64 m, s], .int .i64 v] w1 fun e w' => e = .returned (.bool (nodB m v)) ∧ Below w1.heap.size w1 w') := fun m v s w1 => rnode_any m v s w1
  have RT : Hid (∀ k w1, Calls Try.prog 31 #[.int .i64 k] w1 fun e w' => e = .returned (.bool (ratB k)) ∧ w' = w1) := fun k w1 => rrate_any k w1
  go_enter Try.func21, Try.ntmps21
  go_upto_region 1 with fail
  generalize w.alloc (.cells #[.int .i64 m, .slice a N c] 24) = W0 at *
  go_wp2
  clear y0 y1
  go_loopg [3] N (fun gk v wr => ∃ k : Nat, k ≤ N ∧ gk = N - k ∧ v = .int .i64 (k : Int) ∧ Below W0.heap.size W0 wr ∧ ∀ j, j < k → arcE m (nthNa L j) = 0)
  case atStart => exact ⟨0, Nat.zero_le _, rfl, rfl, Below.refl _ _, fun j hj => by omega⟩
  case round =>
    obtain ⟨k, hkN, rfl, rfl, hB, hE⟩ := hrel
    have HB := hiddenN hB
    have HE := hiddenN hE
    clear hB hE
    have GG := hiddenN (g0.out.below HB.out)
    have y0 := GG.out.cell (k := 0) rfl
    have y1 := GG.out.cell (k := 1) rfl
    simp only [List.getElem_toArray, List.getElem_cons_zero, List.getElem_cons_succ] at y0 y1
    by_cases hlt : k < N
    · have hki : (k : Int) < (N : Int) := by omega
      rcases HA.out.below HB.out with e | ⟨b, off, rfl, hc⟩
      · rw [e] at hN; simp at hN; omega
      obtain ⟨d0, d1, d2, d3, d4⟩ := hc k (by omega)
      have HS := hiddenN (arcs_some (m := m) (L := L) (i := k) (by omega) HE.out)
      have HZ : Hid (arcE m (nthNa L k) = 0 → ∀ j, j < k + 1 → arcE m (nthNa L j) = 0) := fun h0 j hj => by
        by_cases e : j = k
        · subst e; exact h0
        · exact HE.out j (by omega)
      have ER := arcE_ref m (nthNa L k)
      generalize nthNa L k = x at *
      obtain ⟨f, t, g, kk, s⟩ := x
      simp only at ER d0 d1 d2 d3 d4
      clear hc
      go_upto_region 9 with fail
      have bc := (Below.refl wr.heap.size wr).alloc (Nat.le_refl _) (.cells #[.int .i64 f, .int .i64 t, .int .i64 g, .int .i64 kk, .int .i64 s] 45)
      have G2 := hiddenN (GG.out.below bc)
      have XA := hiddenN (blkA_new 45 wr #[.int .i64 f, .int .i64 t, .int .i64 g, .int .i64 kk, .int .i64 s])
      have B2 := hiddenN (HB.out.trans (bc.mono HB.out.size))
      obtain ⟨ab, hab⟩ : ∃ q, wr.heap.size = q := ⟨_, rfl⟩
      rw [hab] at XA ⊢
      clear bc GG d0 d1 d2 d3 d4 y0 y1
      generalize wr.alloc (.cells #[.int .i64 f, .int .i64 t, .int .i64 g, .int .i64 kk, .int .i64 s] 45) = W1 at *
      have y0 := G2.out.cell (k := 0) rfl
      have y1 := G2.out.cell (k := 1) rfl
      have x0 := XA.out.cell (k := 0) rfl
      have x1 := XA.out.cell (k := 1) rfl
      have x2 := XA.out.cell (k := 2) rfl
      have x3 := XA.out.cell (k := 3) rfl
      have x4 := XA.out.cell (k := 4) rfl
      simp only [List.getElem_toArray, List.getElem_cons_zero, List.getElem_cons_succ] at y0 y1 x0 x1 x2 x3 x4
      cases h0 : nodB m f with
      | false =>
        simp [h0] at ER
        go_wp2_with (first | (go_at_call 30; (with_reducible refine (ND.out _ _ _ _).mono ?_); rintro e W2 ⟨rfl, b2⟩; rw [h0]; have B3 := hiddenN (B2.out.trans (b2.mono B2.out.size)); have G3 := hiddenN (G2.out.below b2); have X3 := hiddenN (XA.out.below b2); clear b2 y0 y1 x0 x1 x2 x3 x4; have y0 := G3.out.cell (k := 0) rfl; have y1 := G3.out.cell (k := 1) rfl; have x0 := X3.out.cell (k := 0) rfl; have x1 := X3.out.cell (k := 1) rfl; have x2 := X3.out.cell (k := 2) rfl; have x3 := X3.out.cell (k := 3) rfl; have x4 := X3.out.cell (k := 4) rfl; simp only [List.getElem_toArray, List.getElem_cons_zero, List.getElem_cons_succ] at y0 y1 x0 x1 x2 x3 x4; clear G2 XA B2))
        go_ret
        rw [HS.out (by rw [ER]; decide), ER]
        exact ⟨rfl, BA.out.trans (B3.out.mono BA.out.size)⟩
      | true =>
        cases h1 : nodB m t with
        | false =>
          simp [h0, h1] at ER
          go_wp2_with (first | (go_at_call 30; (with_reducible refine (ND.out _ _ _ _).mono ?_); rintro e W2 ⟨rfl, b2⟩; rw [h0]; have B3 := hiddenN (B2.out.trans (b2.mono B2.out.size)); have G3 := hiddenN (G2.out.below b2); have X3 := hiddenN (XA.out.below b2); clear b2 y0 y1 x0 x1 x2 x3 x4; have y0 := G3.out.cell (k := 0) rfl; have y1 := G3.out.cell (k := 1) rfl; have x0 := X3.out.cell (k := 0) rfl; have x1 := X3.out.cell (k := 1) rfl; have x2 := X3.out.cell (k := 2) rfl; have x3 := X3.out.cell (k := 3) rfl; have x4 := X3.out.cell (k := 4) rfl; simp only [List.getElem_toArray, List.getElem_cons_zero, List.getElem_cons_succ] at y0 y1 x0 x1 x2 x3 x4; clear G2 XA B2) | (go_at_call 30; (with_reducible refine (ND.out _ _ _ _).mono ?_); rintro e W3 ⟨rfl, b2⟩; rw [h1]; have B4 := hiddenN (B3.out.trans (b2.mono B3.out.size)); have G4 := hiddenN (G3.out.below b2); have X4 := hiddenN (X3.out.below b2); clear b2 y0 y1 x0 x1 x2 x3 x4; have y0 := G4.out.cell (k := 0) rfl; have y1 := G4.out.cell (k := 1) rfl; have x0 := X4.out.cell (k := 0) rfl; have x1 := X4.out.cell (k := 1) rfl; have x2 := X4.out.cell (k := 2) rfl; have x3 := X4.out.cell (k := 3) rfl; have x4 := X4.out.cell (k := 4) rfl; simp only [List.getElem_toArray, List.getElem_cons_zero, List.getElem_cons_succ] at y0 y1 x0 x1 x2 x3 x4; clear G3 X3 B3))
          go_ret
          rw [HS.out (by rw [ER]; decide), ER]
          exact ⟨rfl, BA.out.trans (B4.out.mono BA.out.size)⟩
        | true =>
          cases h2 : ratB g with
          | false =>
            simp [h0, h1, h2] at ER
            go_wp2_with (first | (go_at_call 30; (with_reducible refine (ND.out _ _ _ _).mono ?_); rintro e W2 ⟨rfl, b2⟩; rw [h0]; have B3 := hiddenN (B2.out.trans (b2.mono B2.out.size)); have G3 := hiddenN (G2.out.below b2); have X3 := hiddenN (XA.out.below b2); clear b2 y0 y1 x0 x1 x2 x3 x4; have y0 := G3.out.cell (k := 0) rfl; have y1 := G3.out.cell (k := 1) rfl; have x0 := X3.out.cell (k := 0) rfl; have x1 := X3.out.cell (k := 1) rfl; have x2 := X3.out.cell (k := 2) rfl; have x3 := X3.out.cell (k := 3) rfl; have x4 := X3.out.cell (k := 4) rfl; simp only [List.getElem_toArray, List.getElem_cons_zero, List.getElem_cons_succ] at y0 y1 x0 x1 x2 x3 x4; clear G2 XA B2) | (go_at_call 30; (with_reducible refine (ND.out _ _ _ _).mono ?_); rintro e W3 ⟨rfl, b2⟩; rw [h1]; have B4 := hiddenN (B3.out.trans (b2.mono B3.out.size)); have G4 := hiddenN (G3.out.below b2); have X4 := hiddenN (X3.out.below b2); clear b2 y0 y1 x0 x1 x2 x3 x4; have y0 := G4.out.cell (k := 0) rfl; have y1 := G4.out.cell (k := 1) rfl; have x0 := X4.out.cell (k := 0) rfl; have x1 := X4.out.cell (k := 1) rfl; have x2 := X4.out.cell (k := 2) rfl; have x3 := X4.out.cell (k := 3) rfl; have x4 := X4.out.cell (k := 4) rfl; simp only [List.getElem_toArray, List.getElem_cons_zero, List.getElem_cons_succ] at y0 y1 x0 x1 x2 x3 x4; clear G3 X3 B3) | (go_at_call 31; (with_reducible refine (RT.out _ _).mono ?_); rintro e u ⟨rfl, hu⟩; rw [hu, h2]; clear hu u))
            go_ret
            rw [HS.out (by rw [ER]; decide), ER]
            exact ⟨rfl, BA.out.trans (B4.out.mono BA.out.size)⟩
          | true =>
            cases h3 : ratB kk with
            | false =>
              simp [h0, h1, h2, h3] at ER
              go_wp2_with (first | (go_at_call 30; (with_reducible refine (ND.out _ _ _ _).mono ?_); rintro e W2 ⟨rfl, b2⟩; rw [h0]; have B3 := hiddenN (B2.out.trans (b2.mono B2.out.size)); have G3 := hiddenN (G2.out.below b2); have X3 := hiddenN (XA.out.below b2); clear b2 y0 y1 x0 x1 x2 x3 x4; have y0 := G3.out.cell (k := 0) rfl; have y1 := G3.out.cell (k := 1) rfl; have x0 := X3.out.cell (k := 0) rfl; have x1 := X3.out.cell (k := 1) rfl; have x2 := X3.out.cell (k := 2) rfl; have x3 := X3.out.cell (k := 3) rfl; have x4 := X3.out.cell (k := 4) rfl; simp only [List.getElem_toArray, List.getElem_cons_zero, List.getElem_cons_succ] at y0 y1 x0 x1 x2 x3 x4; clear G2 XA B2) | (go_at_call 30; (with_reducible refine (ND.out _ _ _ _).mono ?_); rintro e W3 ⟨rfl, b2⟩; rw [h1]; have B4 := hiddenN (B3.out.trans (b2.mono B3.out.size)); have G4 := hiddenN (G3.out.below b2); have X4 := hiddenN (X3.out.below b2); clear b2 y0 y1 x0 x1 x2 x3 x4; have y0 := G4.out.cell (k := 0) rfl; have y1 := G4.out.cell (k := 1) rfl; have x0 := X4.out.cell (k := 0) rfl; have x1 := X4.out.cell (k := 1) rfl; have x2 := X4.out.cell (k := 2) rfl; have x3 := X4.out.cell (k := 3) rfl; have x4 := X4.out.cell (k := 4) rfl; simp only [List.getElem_toArray, List.getElem_cons_zero, List.getElem_cons_succ] at y0 y1 x0 x1 x2 x3 x4; clear G3 X3 B3) | (go_at_call 31; (with_reducible refine (RT.out _ _).mono ?_); rintro e u ⟨rfl, hu⟩; rw [hu, h2]; clear hu u) | (go_at_call 31; (with_reducible refine (RT.out _ _).mono ?_); rintro e u ⟨rfl, hu⟩; rw [hu, h3]; clear hu u))
              go_ret
              rw [HS.out (by rw [ER]; decide), ER]
              exact ⟨rfl, BA.out.trans (B4.out.mono BA.out.size)⟩
            | true =>
              by_cases h4 : s < 0
              · simp [h0, h1, h2, h3, h4] at ER
                go_wp2_with (first | (go_at_call 30; (with_reducible refine (ND.out _ _ _ _).mono ?_); rintro e W2 ⟨rfl, b2⟩; rw [h0]; have B3 := hiddenN (B2.out.trans (b2.mono B2.out.size)); have G3 := hiddenN (G2.out.below b2); have X3 := hiddenN (XA.out.below b2); clear b2 y0 y1 x0 x1 x2 x3 x4; have y0 := G3.out.cell (k := 0) rfl; have y1 := G3.out.cell (k := 1) rfl; have x0 := X3.out.cell (k := 0) rfl; have x1 := X3.out.cell (k := 1) rfl; have x2 := X3.out.cell (k := 2) rfl; have x3 := X3.out.cell (k := 3) rfl; have x4 := X3.out.cell (k := 4) rfl; simp only [List.getElem_toArray, List.getElem_cons_zero, List.getElem_cons_succ] at y0 y1 x0 x1 x2 x3 x4; clear G2 XA B2) | (go_at_call 30; (with_reducible refine (ND.out _ _ _ _).mono ?_); rintro e W3 ⟨rfl, b2⟩; rw [h1]; have B4 := hiddenN (B3.out.trans (b2.mono B3.out.size)); have G4 := hiddenN (G3.out.below b2); have X4 := hiddenN (X3.out.below b2); clear b2 y0 y1 x0 x1 x2 x3 x4; have y0 := G4.out.cell (k := 0) rfl; have y1 := G4.out.cell (k := 1) rfl; have x0 := X4.out.cell (k := 0) rfl; have x1 := X4.out.cell (k := 1) rfl; have x2 := X4.out.cell (k := 2) rfl; have x3 := X4.out.cell (k := 3) rfl; have x4 := X4.out.cell (k := 4) rfl; simp only [List.getElem_toArray, List.getElem_cons_zero, List.getElem_cons_succ] at y0 y1 x0 x1 x2 x3 x4; clear G3 X3 B3) | (go_at_call 31; (with_reducible refine (RT.out _ _).mono ?_); rintro e u ⟨rfl, hu⟩; rw [hu, h2]; clear hu u) | (go_at_call 31; (with_reducible refine (RT.out _ _).mono ?_); rintro e u ⟨rfl, hu⟩; rw [hu, h3]; clear hu u))
                go_ret
                rw [HS.out (by rw [ER]; decide), ER]
                exact ⟨rfl, BA.out.trans (B4.out.mono BA.out.size)⟩
              · by_cases h5 : 256 < s
                · simp [h0, h1, h2, h3, h4, h5] at ER
                  go_wp2_with (first | (go_at_call 30; (with_reducible refine (ND.out _ _ _ _).mono ?_); rintro e W2 ⟨rfl, b2⟩; rw [h0]; have B3 := hiddenN (B2.out.trans (b2.mono B2.out.size)); have G3 := hiddenN (G2.out.below b2); have X3 := hiddenN (XA.out.below b2); clear b2 y0 y1 x0 x1 x2 x3 x4; have y0 := G3.out.cell (k := 0) rfl; have y1 := G3.out.cell (k := 1) rfl; have x0 := X3.out.cell (k := 0) rfl; have x1 := X3.out.cell (k := 1) rfl; have x2 := X3.out.cell (k := 2) rfl; have x3 := X3.out.cell (k := 3) rfl; have x4 := X3.out.cell (k := 4) rfl; simp only [List.getElem_toArray, List.getElem_cons_zero, List.getElem_cons_succ] at y0 y1 x0 x1 x2 x3 x4; clear G2 XA B2) | (go_at_call 30; (with_reducible refine (ND.out _ _ _ _).mono ?_); rintro e W3 ⟨rfl, b2⟩; rw [h1]; have B4 := hiddenN (B3.out.trans (b2.mono B3.out.size)); have G4 := hiddenN (G3.out.below b2); have X4 := hiddenN (X3.out.below b2); clear b2 y0 y1 x0 x1 x2 x3 x4; have y0 := G4.out.cell (k := 0) rfl; have y1 := G4.out.cell (k := 1) rfl; have x0 := X4.out.cell (k := 0) rfl; have x1 := X4.out.cell (k := 1) rfl; have x2 := X4.out.cell (k := 2) rfl; have x3 := X4.out.cell (k := 3) rfl; have x4 := X4.out.cell (k := 4) rfl; simp only [List.getElem_toArray, List.getElem_cons_zero, List.getElem_cons_succ] at y0 y1 x0 x1 x2 x3 x4; clear G3 X3 B3) | (go_at_call 31; (with_reducible refine (RT.out _ _).mono ?_); rintro e u ⟨rfl, hu⟩; rw [hu, h2]; clear hu u) | (go_at_call 31; (with_reducible refine (RT.out _ _).mono ?_); rintro e u ⟨rfl, hu⟩; rw [hu, h3]; clear hu u))
                  go_ret
                  rw [HS.out (by rw [ER]; decide), ER]
                  exact ⟨rfl, BA.out.trans (B4.out.mono BA.out.size)⟩
                · simp [h0, h1, h2, h3, h4, h5] at ER
                  go_wp2_with (first | (go_at_call 30; (with_reducible refine (ND.out _ _ _ _).mono ?_); rintro e W2 ⟨rfl, b2⟩; rw [h0]; have B3 := hiddenN (B2.out.trans (b2.mono B2.out.size)); have G3 := hiddenN (G2.out.below b2); have X3 := hiddenN (XA.out.below b2); clear b2 y0 y1 x0 x1 x2 x3 x4; have y0 := G3.out.cell (k := 0) rfl; have y1 := G3.out.cell (k := 1) rfl; have x0 := X3.out.cell (k := 0) rfl; have x1 := X3.out.cell (k := 1) rfl; have x2 := X3.out.cell (k := 2) rfl; have x3 := X3.out.cell (k := 3) rfl; have x4 := X3.out.cell (k := 4) rfl; simp only [List.getElem_toArray, List.getElem_cons_zero, List.getElem_cons_succ] at y0 y1 x0 x1 x2 x3 x4; clear G2 XA B2) | (go_at_call 30; (with_reducible refine (ND.out _ _ _ _).mono ?_); rintro e W3 ⟨rfl, b2⟩; rw [h1]; have B4 := hiddenN (B3.out.trans (b2.mono B3.out.size)); have G4 := hiddenN (G3.out.below b2); have X4 := hiddenN (X3.out.below b2); clear b2 y0 y1 x0 x1 x2 x3 x4; have y0 := G4.out.cell (k := 0) rfl; have y1 := G4.out.cell (k := 1) rfl; have x0 := X4.out.cell (k := 0) rfl; have x1 := X4.out.cell (k := 1) rfl; have x2 := X4.out.cell (k := 2) rfl; have x3 := X4.out.cell (k := 3) rfl; have x4 := X4.out.cell (k := 4) rfl; simp only [List.getElem_toArray, List.getElem_cons_zero, List.getElem_cons_succ] at y0 y1 x0 x1 x2 x3 x4; clear G3 X3 B3) | (go_at_call 31; (with_reducible refine (RT.out _ _).mono ?_); rintro e u ⟨rfl, hu⟩; rw [hu, h2]; clear hu u) | (go_at_call 31; (with_reducible refine (RT.out _ _).mono ?_); rintro e u ⟨rfl, hu⟩; rw [hu, h3]; clear hu u))
                  go_roundg (N - (k + 1))
                  case measure => omega
                  case rel => exact ⟨k + 1, by omega, rfl, by go_num, B4.out, HZ.out ER⟩
    · have ek : k = N := by omega
      subst ek
      have hki : ¬ (k : Int) < (k : Int) := by omega
      have hz := hiddenN (arcs_none (m := m) (L := L) (fun i hi => HE.out i (by omega)))
      go_wp2
      go_ret
      rw [hz.out]
      exact ⟨rfl, BA.out.trans (HB.out.mono BA.out.size)⟩
theorem wpList_appA {w : World} {ops : Array Oper} {rest : List Oper} {o : Oper} {a : Act} {Q : Exit → Act → World → Prop} (hgd : o.guard = none) (s x : Operand) (ho : o.op = .call { callee := .builtin .append, args := #[s, x], argTypes := #[22, 22] })
    (hs : a.eval s = .slice none 0 0) (ad : Option Addr) (c : Nat) (L : List NA) (hx : a.eval x = .slice ad L.length c) (hna : ad = none → L.length = 0 ∧ c = 0) (hat : AtN w ad L) (hb : L.length * 40 ≤ 140737488355328)
    (h : ∀ d c' w', w'.ownsRow w.heap.size 45 5 (.slice d L.length c') L.length (flatN L) → (d = none → L.length = 0 ∧ c' = 0) → Below w.heap.size w w' → wpList Try.prog ops Q rest (a.put o.dst (.slice d L.length c')) w') : wpList Try.prog ops Q (o :: rest) a w := by
  obtain ⟨i0, hi, hz0, hz1, hz2⟩ := info_parts Try.infoArc
  have ON := World.ownsRow_nil w w.heap.size 45 5
  cases ad with
  | none =>
    obtain ⟨h1, rfl⟩ := hna rfl
    have e : L = [] := List.eq_nil_of_length_eq_zero h1
    subst e
    refine wpList_append_own_none hgd s x 22 ho w.heap.size 45 i0 5 Try.underlying22 hi _ 0 [] hs ON hx ?_
    exact h none 0 w ON (fun _ => ⟨rfl, rfl⟩) (Below.refl _ _)
  | some ad =>
    refine wpList_append_own _ hgd s x 22 ho w.heap.size 45 i0 _ 5 40 Try.underlying22 hi hz0 hz1 hz2 rfl (by decide) _ 0 [] hs ON ad L.length c (flatN L) hx (by rw [flatN_len]) (AtN.flat hat) (flatN_one L) (by unfold maxLen; omega) (by omega) (Nat.le_refl _) ?_
    intro v' w1 hown hgrow _
    have hown' : w1.ownsRow w.heap.size 45 5 v' L.length (flatN L) := by simpa using hown
    obtain ⟨a', cap', rfl, -, -⟩ := ownsN_at hown'
    refine h a' cap' w1 hown' (fun e => ?_) ((Below.refl _ _).grown hgrow (Nat.le_refl _) (fun k hk => by cases hk))
    subst e
    rcases hown'.2 with ⟨e1, e2⟩ | ⟨g, cap, cur, e1, -⟩
    · simp at e1; exact ⟨e2, e1.2⟩
    · cases e1
/-- A net as new memory. -/
def NetE (n : NN) (w : World) (e : Ending) (w' : World) : Prop := ∃ (a : Option Addr) (c : Nat), e = .returned (.agg #[.int .i64 n.nodes, .slice a n.arcs.length c]) ∧ AtN w' a n.arcs ∧ (a = none → n.arcs.length = 0 ∧ c = 0) ∧ (∀ x, a = some x → w.heap.size ≤ x.block ∧ x.block < w'.heap.size) ∧ w'.ownsRow w.heap.size 45 5 (.slice a n.arcs.length c) n.arcs.length (flatN n.arcs) ∧ Below w.heap.size w w'
set_option maxRecDepth 100000 in
set_option maxHeartbeats 4000000 in
theorem rnet_any (n : NN) (a : Option Addr) (c : Nat) (w : World) (h : ArgN w a c n) : Calls Try.prog 8 #[.agg #[.int .i64 n.nodes, .slice a n.arcs.length c]] w (NetE n w) := by
  obtain ⟨NE, hNE⟩ : ∃ R, NetE n w = R := ⟨_, rfl⟩
  rw [hNE]
  have HNE := hiddenN hNE
  clear hNE
  have b0 := (Below.refl w.heap.size w).alloc (Nat.le_refl _) (.cells #[.int .i64 n.nodes, .slice a n.arcs.length c] 24)
  have b1 := b0.alloc b0.size (.cells #[.int .i64 0, .slice none 0 0] 24)
  have g0 := (blkA_new 24 w #[.int .i64 n.nodes, .slice a n.arcs.length c]).below ((Below.refl _ _).alloc (Nat.le_refl _) (.cells #[.int .i64 0, .slice none 0 0] 24))
  have G1 := hiddenN (blkA_new 24 (w.alloc (.cells #[.int .i64 n.nodes, .slice a n.arcs.length c] 24)) #[.int .i64 0, .slice none 0 0])
  have hsz : (w.alloc (.cells #[.int .i64 n.nodes, .slice a n.arcs.length c] 24)).heap.size = w.heap.size + 1 := World.size_alloc _ _
  rw [hsz] at G1
  have y0 := g0.cell (k := 0) rfl
  have y1 := g0.cell (k := 1) rfl
  simp only [List.getElem_toArray, List.getElem_cons_zero, List.getElem_cons_succ] at y0 y1
  have G0 := hiddenN g0
  have B1 := hiddenN b1
  have HA := hiddenN (h.below b1)
  have hroom := h.room
  clear b0 b1 g0 h
  go_enter Try.func8, Try.ntmps8
  go_upto_region 1 with fail
  generalize (w.alloc (.cells #[.int .i64 n.nodes, .slice a n.arcs.length c] 24)).alloc (.cells #[.int .i64 0, .slice none 0 0] 24) = V0 at *
  go_upto_region 3 with (at_builtin; refine wpList_appA rfl _ _ rfl rfl a c n.arcs rfl HA.out.none HA.out.lies (by omega) ?_; intro d cc W3 ho3 hn3 b3; have O3 := hiddenN ho3; have N3 := hiddenN hn3; have BB3 := hiddenN b3; have G3 := hiddenN (G1.out.below b3); have G4 := hiddenN (G0.out.below b3); clear ho3 hn3 b3 y0 y1)
  have y0 := G4.out.cell (k := 0) rfl
  simp only [List.getElem_toArray, List.getElem_cons_zero] at y0
  have hlt1 := G1.out.lt
  have hB := B1.out.size
  clear G0 G1 HA G4
  go_wp2_with (refine wpList_storeW _ rfl 24 (.tmp 2) (.tmp 11) rfl rfl (w.heap.size + 1) 24 _ _ rfl rfl G3.out sizNet rfl rfl ?_; intro w8 hN hU; have N8 := hiddenN hN; have U8 := hiddenN hU; clear hN hU)
  have t0 := N8.out.cell (k := 0) rfl
  have t1 := N8.out.cell (k := 1) rfl
  simp only [List.getElem_toArray, List.getElem_cons_zero, List.getElem_cons_succ] at t0 t1
  refine bodyPost_ret (v := .agg #[.int .i64 n.nodes, .slice d n.arcs.length cc]) (by simp [results, Try.results8, go_sem, t0, t1]) rfl ?_
  rw [← HNE.out]
  obtain ⟨a', c', ev, hat, hbl⟩ := ownsN_at O3.out
  cases ev
  have keep : ∀ x, d = some x → w8.heap[x.block]? = W3.heap[x.block]? := fun x hx => U8.out.block _ (hbl x hx).2 (by have := (hbl x hx).1; omega)
  refine ⟨d, cc, rfl, hat.keep keep, N3.out, fun x hx => ⟨by have := (hbl x hx).1; omega, Nat.lt_of_lt_of_le (hbl x hx).2 U8.out.size⟩, ?_, (B1.out.trans (BB3.out.mono hB)).trans (U8.out.below (by omega) (Nat.le_trans hB BB3.out.size))⟩
  refine ⟨O3.out.1, ?_⟩
  rcases O3.out.2 with q | ⟨g, cap, cur, e1, hg, hh, r⟩
  · exact .inl q
  · simp at e1
    obtain ⟨rfl, rfl⟩ := e1
    exact .inr ⟨g, cc, cur, rfl, by omega, by rw [keep _ rfl]; exact hh, r⟩
set_option maxRecDepth 100000 in
set_option maxHeartbeats 4000000 in
theorem sameNet_any (n : NN) (a b : Option Addr) (ca cb : Nat) (w : World) (ha : AtN w a n.arcs) (hb : AtN w b n.arcs) (hl : n.arcs.length ≤ 4611686018427387904) : Calls Try.prog 12 #[.agg #[.int .i64 n.nodes, .slice a n.arcs.length ca], .agg #[.int .i64 n.nodes, .slice b n.arcs.length cb]] w fun e w' => e = .returned (.bool true) ∧ Below w.heap.size w w' := by
  obtain ⟨m, L⟩ := n
  simp only at *
  obtain ⟨N, hN⟩ : ∃ N, L.length = N := ⟨_, rfl⟩
  rw [hN] at hl ⊢
  have b0 := (Below.refl w.heap.size w).alloc (Nat.le_refl _) (.cells #[.int .i64 m, .slice a N ca] 24)
  have b1 := b0.alloc b0.size (.cells #[.int .i64 m, .slice b N cb] 24)
  have g0 := (blkA_new 24 w #[.int .i64 m, .slice a N ca]).below ((Below.refl _ _).alloc (Nat.le_refl _) (.cells #[.int .i64 m, .slice b N cb] 24))
  have g1 := blkA_new 24 (w.alloc (.cells #[.int .i64 m, .slice a N ca] 24)) #[.int .i64 m, .slice b N cb]
  have hsz : (w.alloc (.cells #[.int .i64 m, .slice a N ca] 24)).heap.size = w.heap.size + 1 := World.size_alloc _ _
  rw [hsz] at g1
  have G0 := hiddenN g0
  have G1 := hiddenN g1
  have HA := hiddenN (ha.below b1)
  have HB := hiddenN (hb.below b1)
  have B1 := hiddenN b1
  clear ha hb b0 b1 g0 g1
  have y0 := G0.out.cell (k := 0) rfl
  have y1 := G0.out.cell (k := 1) rfl
  have z0 := G1.out.cell (k := 0) rfl
  have z1 := G1.out.cell (k := 1) rfl
  simp only [List.getElem_toArray, List.getElem_cons_zero, List.getElem_cons_succ] at y0 y1 z0 z1
  have q0 : (m != m) = false := by simp
  have q1 : ((N : Int) != (N : Int)) = false := by simp
  go_enter Try.func12, Try.ntmps12
  go_upto_region 1 with fail
  generalize (w.alloc (.cells #[.int .i64 m, .slice a N ca] 24)).alloc (.cells #[.int .i64 m, .slice b N cb] 24) = W0 at *
  go_wp2
  clear y0 y1 z0 z1 q0 q1
  go_loopg [5] N (fun gk v wr => ∃ k : Nat, k ≤ N ∧ gk = N - k ∧ v = .int .i64 (k : Int) ∧ Below W0.heap.size W0 wr)
  case atStart => exact ⟨0, Nat.zero_le _, rfl, rfl, Below.refl _ _⟩
  case round =>
    obtain ⟨k, hkN, rfl, rfl, hBr⟩ := hrel
    have BR := hiddenN hBr
    clear hBr
    have y1 := (G0.out.below BR.out).cell (k := 1) rfl
    have z1 := (G1.out.below BR.out).cell (k := 1) rfl
    simp only [List.getElem_toArray, List.getElem_cons_zero, List.getElem_cons_succ] at y1 z1
    by_cases hlt : k < N
    · have hki : (k : Int) < (N : Int) := by omega
      rcases HA.out.below BR.out with e | ⟨ba, oa, rfl, hca⟩
      · rw [e] at hN; simp at hN; omega
      rcases HB.out.below BR.out with e | ⟨bb, ob, rfl, hcb⟩
      · rw [e] at hN; simp at hN; omega
      obtain ⟨a0, a1, a2, a3, a4⟩ := hca k (by omega)
      obtain ⟨b0, b1, b2, b3, b4⟩ := hcb k (by omega)
      generalize nthNa L k = x at *
      obtain ⟨f, t, g, kk, s⟩ := x
      simp only at a0 a1 a2 a3 a4 b0 b1 b2 b3 b4
      have p0 : (f == f) = true := by simp
      have p1 : (t == t) = true := by simp
      have p2 : (g == g) = true := by simp
      have p3 : (kk == kk) = true := by simp
      have p4 : (s == s) = true := by simp
      clear hca hcb
      go_wp2
      go_quiet (fail)
      go_wp2
      go_roundg (N - (k + 1))
      case measure => omega
      case rel => exact ⟨k + 1, by omega, rfl, by go_num, drewB BR.out _⟩
    · have ek : k = N := by omega
      subst ek
      have hki : ¬ (k : Int) < (k : Int) := by omega
      go_wp2
      go_ret
      exact ⟨rfl, B1.out.trans (BR.out.mono B1.out.size)⟩
end Go.Proofs.Ytdgngmhapehldaa
