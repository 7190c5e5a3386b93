/- Texts of one chain, laid one behind the other. -/
import Derived.Test.YtecmkienoofccaaPartBalanceUnlike27
import Derived.Test.YtecmkienoofccaaPartBalanceUnlike23
import Derived.Test.YtecmkienoofccaaPartBalanceUnlike12
namespace Go.Proofs.Ytecmkienoofccaa
open Go.ChangeShapes Go.WideShapes Go.ChangeAt Go.RowKit
def netB1 : NN := ⟨2, [⟨0, 1, 2, 3, 0⟩]⟩
def netB2 : NN := ⟨1, [⟨0, 0, 2, 1, 0⟩]⟩
theorem wakeB1 : checkN netB1 = 0 ∧ vdB netB1 = 1 ∧ rpB netB1 = [3, 2] ∧ cyB netB1 = [] := by decide +kernel
theorem wakeB2 : checkN netB2 = 0 ∧ vdB netB2 = 2 ∧ rpB netB2 = [] ∧ cyB netB2 = [(0, false)] := by decide +kernel
theorem wakeB_at (w : World) (f t g k s : Int) : AtN (w.alloc (.cells #[.int .i64 f, .int .i64 t, .int .i64 g, .int .i64 k, .int .i64 s] 52)) (some ⟨w.heap.size, 0, none⟩) [⟨f, t, g, k, s⟩] := by
  have bx := blkA_new 52 w #[.int .i64 f, .int .i64 t, .int .i64 g, .int .i64 k, .int .i64 s]
  refine .inr ⟨w.heap.size, 0, rfl, fun q hq => ?_⟩
  match q, hq with
  | 0, _ => exact ⟨bx.cell rfl, bx.cell rfl, bx.cell rfl, bx.cell rfl, bx.cell rfl⟩
theorem solveB1 (U : World) (d : Option Addr) (cc : Nat) (h : AtN U d netB1.arcs) : Calls Try.prog 16 #[.agg #[.int .i64 2, .slice d 1 cc]] U fun e w' => ∃ d1 c1 d2 c2, e = .returned (.tuple #[.agg #[.int .u8 1, .slice d1 2 c1, .slice d2 0 c2], .int .i64 0]) ∧ At w' d1 [3, 2] ∧ Below U.heap.size U w' :=
  (solve_any netB1 d cc U h (by decide)).mono fun e w' q => by
    obtain ⟨d1, c1, d2, c2, h1, h2, h3, h4⟩ := q
    rw [wakeB1.1, wakeB1.2.1, wakeB1.2.2.1, wakeB1.2.2.2] at h1
    rw [wakeB1.2.2.1] at h2
    exact ⟨d1, c1, d2, c2, h1, h2.at, h4⟩
theorem solveB2 (U : World) (d : Option Addr) (cc : Nat) (h : AtN U d netB2.arcs) : Calls Try.prog 16 #[.agg #[.int .i64 1, .slice d 1 cc]] U fun e w' => ∃ d1 c1 gb go' c2, e = .returned (.tuple #[.agg #[.int .u8 2, .slice d1 0 c1, .slice (some ⟨gb, go', none⟩) 1 c2], .int .i64 0]) ∧ w'.cell? ⟨gb, go', none⟩ = some (.int .i64 0) ∧ w'.cell? ⟨gb, go' + 1, none⟩ = some (.bool false) ∧ Below U.heap.size U w' :=
  (solve_any netB2 d cc U h (by decide)).mono fun e w' q => by
    obtain ⟨d1, c1, d2, c2, h1, h2, h3, h4⟩ := q
    rw [wakeB2.1, wakeB2.2.1, wakeB2.2.2.1, wakeB2.2.2.2] at h1
    rw [wakeB2.2.2.2] at h3
    rcases h3.at with e | ⟨gb, go', e, hc⟩
    · cases e
    · subst e
      obtain ⟨q0, q1⟩ := hc 0 (by decide)
      exact ⟨d1, c1, gb, go', c2, h1, q0, q1, h4⟩
set_option maxRecDepth 100000 in
set_option maxHeartbeats 8000000 in
theorem awakeB (w : World) : Calls Try.prog 13 #[] w fun e w' => e = .returned (.bool true) ∧ Below w.heap.size w w' := by
  have b1 := (Below.refl w.heap.size w).alloc (Nat.le_refl _) (.cells #[.int .i64 0, .int .i64 1, .int .i64 2, .int .i64 3, .int .i64 0] 52)
  have S1 := hiddenN (solveB1 _ _ 1 (wakeB_at w 0 1 2 3 0))
  have S2 := hiddenN (fun (U : World) => solveB2 _ _ 1 (wakeB_at U 0 0 2 1 0))
  have B1 := hiddenN b1
  have SI : Hid (∀ (U : World) (x y : Option Addr) (cx cy : Nat), At U x [3, 2] → At U y [3, 2] → Calls Try.prog 27 #[.slice x 2 cx, .slice y 2 cy] U fun e w' => e = .returned (.bool true) ∧ Below U.heap.size U w') := fun U x y cx cy h1 h2 => sameN U x y [3, 2] cx cy (by decide) h1 h2
  clear b1
  go_enter Try.func13, Try.ntmps13
  go_upto_region 2 with (go_at_call 16; (with_reducible refine S1.out.mono ?_); rintro e W1 ⟨d1, c1, d2, c2, rfl, q1, b1⟩; have R1 := hiddenN q1; have L1 := hiddenN (B1.out.trans (b1.mono B1.out.size)); clear q1 b1)
  clear S1 B1
  have b2 := (Below.refl W1.heap.size W1).alloc (Nat.le_refl _) (.cells #[.int .u8 1, .slice d1 2 c1, .slice d2 0 c2] 37)
  have X2 := hiddenN (blkA_new 37 W1 #[.int .u8 1, .slice d1 2 c1, .slice d2 0 c2])
  have R2 := hiddenN (R1.out.below b2)
  have L2 := hiddenN (L1.out.trans (b2.mono L1.out.size))
  obtain ⟨xb, hxb⟩ : ∃ q, W1.heap.size = q := ⟨_, rfl⟩
  rw [hxb] at X2 ⊢
  clear b2 R1 L1 hxb
  generalize W1.alloc (.cells #[.int .u8 1, .slice d1 2 c1, .slice d2 0 c2] 37) = W2 at *
  have b3 := hiddenN ((Below.refl W2.heap.size W2).alloc (Nat.le_refl _) (.cells #[.int .i64 0, .int .i64 0, .int .i64 2, .int .i64 1, .int .i64 0] 52))
  go_upto_region 3 with (go_at_call 16; (with_reducible refine (S2.out W2).mono ?_); rintro e W3 ⟨d3, c3, gb, go', c4, rfl, q1, q2, b4⟩; have B4 := hiddenN (b3.out.trans (b4.mono b3.out.size)); have P0 := hiddenN q1; have P1 := hiddenN q2; clear q1 q2 b4)
  clear S2 b3
  have b5 := (Below.refl W3.heap.size W3).alloc (Nat.le_refl _) (.cells #[.int .u8 2, .slice d3 0 c3, .slice (some ⟨gb, go', none⟩) 1 c4] 37)
  have Y5 := hiddenN (blkA_new 37 W3 #[.int .u8 2, .slice d3 0 c3, .slice (some ⟨gb, go', none⟩) 1 c4])
  have X5 := hiddenN ((X2.out.below B4.out).below b5)
  have R5 := hiddenN ((R2.out.below B4.out).below b5)
  have L5 := hiddenN ((L2.out.trans (B4.out.mono L2.out.size)).trans (b5.mono (Nat.le_trans L2.out.size B4.out.size)))
  have Q0 := hiddenN (cellN_later b5 P0.out)
  have Q1 := hiddenN (cellN_later b5 P1.out)
  obtain ⟨yb, hyb⟩ : ∃ q, W3.heap.size = q := ⟨_, rfl⟩
  rw [hyb] at Y5 ⊢
  clear b5 R2 L2 X2 P0 P1 B4 hyb
  generalize W3.alloc (.cells #[.int .u8 2, .slice d3 0 c3, .slice (some ⟨gb, go', none⟩) 1 c4] 37) = W5 at *
  have x0 := X5.out.cell (k := 0) rfl
  have x1 := X5.out.cell (k := 1) rfl
  simp only [List.getElem_toArray, List.getElem_cons_zero, List.getElem_cons_succ] at x0 x1
  have b6 := (Below.refl W5.heap.size W5).alloc (Nat.le_refl _) (.cells #[.int .i64 3, .int .i64 2] 3)
  have Z6 := blkA_new 3 W5 #[.int .i64 3, .int .i64 2]
  have H6 : Hid (At (W5.alloc (.cells #[.int .i64 3, .int .i64 2] 3)) (some ⟨W5.heap.size, 0, none⟩) [3, 2]) := .inr ⟨W5.heap.size, 0, rfl, fun k hk => by
    match k, hk with
    | 0, _ => exact Z6.cell rfl
    | 1, _ => exact Z6.cell rfl⟩
  have R6 := hiddenN (R5.out.below b6)
  have B6 := hiddenN b6
  clear Z6 b6 R5
  go_wp2_with (go_at_call 27; (with_reducible refine (SI.out _ d1 _ c1 2 R6.out H6.out).mono ?_); rintro e W7 ⟨rfl, b7⟩; have q7 := B6.out.trans (b7.mono B6.out.size); have Y7 := hiddenN (Y5.out.below q7); have L7 := hiddenN (L5.out.trans (q7.mono L5.out.size)); have y0 := Y7.out.cell (k := 0) rfl; have y2 := Y7.out.cell (k := 2) rfl; simp only [List.getElem_toArray, List.getElem_cons_zero, List.getElem_cons_succ] at y0 y2; have q0 := cellN_later q7 Q0.out; have q1 := cellN_later q7 Q1.out; clear b7 q7 x0 x1)
  go_ret
  exact ⟨rfl, L7.out⟩
theorem solve_bad {n : NN} (hc : ¬ checkN n = 0) (a : Option Addr) (c : Nat) (w : World) (h : AtN w a n.arcs) (hl : n.arcs.length ≤ 4611686018427387904) : Calls Try.prog 16 #[.agg #[.int .i64 n.nodes, .slice a n.arcs.length c]] w fun e w' => ∃ d1 c1 d2 c2, e = .returned (.tuple #[.agg #[.int .u8 0, .slice d1 0 c1, .slice d2 0 c2], .int .i64 (checkN n)]) ∧ Below w.heap.size w w' :=
  (solve_any n a c w h hl).mono fun e w' q => by
    obtain ⟨d1, c1, d2, c2, h1, h2, h3, h4⟩ := q
    obtain ⟨v1, v2, v3⟩ := sol_bad hc
    rw [v1, v2, v3] at h1
    exact ⟨d1, c1, d2, c2, h1, h4⟩
theorem solve_big {n : NN} (hc : checkN n = 0) (hb : bigA n = true) (a : Option Addr) (c : Nat) (w : World) (h : AtN w a n.arcs) (hl : n.arcs.length ≤ 4611686018427387904) : Calls Try.prog 16 #[.agg #[.int .i64 n.nodes, .slice a n.arcs.length c]] w fun e w' => ∃ d1 c1 d2 c2, e = .returned (.tuple #[.agg #[.int .u8 3, .slice d1 0 c1, .slice d2 0 c2], .int .i64 0]) ∧ Below w.heap.size w w' :=
  (solve_any n a c w h hl).mono fun e w' q => by
    obtain ⟨d1, c1, d2, c2, h1, h2, h3, h4⟩ := q
    obtain ⟨v1, v2, v3⟩ := sol_big hc hb
    rw [v1, v2, v3, hc] at h1
    exact ⟨d1, c1, d2, c2, h1, h4⟩
theorem solve_odd {n : NN} {i : Nat} (hc : checkN n = 0) (hb : bigA n = false) (hf : fuB n.arcs (cnt n) = some i) (a : Option Addr) (c : Nat) (w : World) (h : AtN w a n.arcs) (hl : n.arcs.length ≤ 4611686018427387904) : Calls Try.prog 16 #[.agg #[.int .i64 n.nodes, .slice a n.arcs.length c]] w fun e w' => ∃ d1 c1 d2 c2, e = .returned (.tuple #[.agg #[.int .u8 2, .slice d1 0 c1, .slice d2 (cycB n i).length c2], .int .i64 0]) ∧ CapS w.heap.size w' d2 c2 (cycB n i) ∧ Below w.heap.size w w' :=
  (solve_any n a c w h hl).mono fun e w' q => by
    obtain ⟨d1, c1, d2, c2, h1, h2, h3, h4⟩ := q
    obtain ⟨v1, v2, v3⟩ := sol_odd hc hb hf
    rw [v1, v2, v3, hc] at h1
    rw [v3] at h3
    exact ⟨d1, c1, d2, c2, h1, h3, h4⟩
theorem solve_even {n : NN} (hc : checkN n = 0) (hb : bigA n = false) (hf : fuB n.arcs (cnt n) = none) (a : Option Addr) (c : Nat) (w : World) (h : AtN w a n.arcs) (hl : n.arcs.length ≤ 4611686018427387904) : Calls Try.prog 16 #[.agg #[.int .i64 n.nodes, .slice a n.arcs.length c]] w fun e w' => ∃ d1 c1 d2 c2, e = .returned (.tuple #[.agg #[.int .u8 1, .slice d1 n.nodes.toNat c1, .slice d2 0 c2], .int .i64 0]) ∧ CapR w.heap.size w' d1 c1 (rowF n.nodes.toNat (cnt n)) ∧ Below w.heap.size w w' :=
  (solve_any n a c w h hl).mono fun e w' q => by
    obtain ⟨d1, c1, d2, c2, h1, h2, h3, h4⟩ := q
    obtain ⟨v1, v2, v3⟩ := sol_even hc hb hf
    rw [v1, v2, v3, hc, rowF_len] at h1
    rw [v2] at h2
    exact ⟨d1, c1, d2, c2, h1, h2, h4⟩
set_option maxRecDepth 100000 in
set_option maxHeartbeats 8000000 in
theorem isCycle_any (A : List NA) (m : Int) (a : Option Addr) (c : Nat) (L : List (Int × Bool)) (la : Option Addr) (lc : Nat) (w : World) (ha : AtN w a A) (hl : AtT w la L) (hN : L.length ≤ 4611686018427387904) (hcap : L.length ≤ lc) :
    Calls Try.prog 37 #[.agg #[.int .i64 m, .slice a A.length c], .slice la L.length lc] w fun e w' => e = .returned (.bool (cycW A L)) ∧ Below w.heap.size w w' := by
  have b0 := (Below.refl w.heap.size w).alloc (Nat.le_refl _) (.cells #[.int .i64 m, .slice a A.length c] 24)
  have X0 := hiddenN (blkA_new 24 w #[.int .i64 m, .slice a A.length c])
  have B0 := hiddenN b0
  have HA := hiddenN (ha.below b0)
  have HL := hiddenN (hl.below b0)
  have y0 := X0.out.cell (k := 0) rfl
  have y1 := X0.out.cell (k := 1) rfl
  simp only [List.getElem_toArray, List.getElem_cons_zero, List.getElem_cons_succ] at y0 y1
  clear b0 ha hl
  unfold cycW
  by_cases h0 : 0 < L.length
  · have AN : Hid (∀ U, Below (w.alloc (.cells #[.int .i64 m, .slice a A.length c] 24)).heap.size (w.alloc (.cells #[.int .i64 m, .slice a A.length c] 24)) U → Calls Try.prog 49 #[.agg #[.int .i64 m, .slice a A.length c], .slice la L.length lc] U fun e w' => e = .returned (.bool (nmW A L)) ∧ Below U.heap.size U w') := fun U hU => allNamed_any A m a c L la lc U (HA.out.below hU) (HL.out.below hU) hN
    cases h1 : nmW A L with
    | false =>
      rw [h1] at AN
      obtain ⟨N, hLN⟩ : ∃ N, L.length = N := ⟨_, rfl⟩
      rw [hLN] at AN h0 ⊢
      have hi : (0 : Int) < (N : Int) := by omega
      go_enter Try.func37, Try.ntmps37
      go_upto_region 1 with fail
      generalize w.alloc (.cells #[.int .i64 m, .slice a A.length c] 24) = W0 at *
      go_wp2_with (go_at_call 49; (with_reducible refine (AN.out W0 (Below.refl _ _)).mono ?_); rintro e V1 ⟨rfl, q1⟩; have L1 := hiddenN q1; clear q1)
      go_ret
      exact ⟨by simp; try rfl, B0.out.trans (L1.out.mono B0.out.size)⟩
    | true =>
      have LH : Hid (∀ U, Below (w.alloc (.cells #[.int .i64 m, .slice a A.length c] 24)).heap.size (w.alloc (.cells #[.int .i64 m, .slice a A.length c] 24)) U → Calls Try.prog 50 #[.agg #[.int .i64 m, .slice a A.length c], .slice la L.length lc] U fun e w' => e = .returned (.bool (hmW A L)) ∧ Below U.heap.size U w') := fun U hU => leadHome_any A m a c L la lc U (HA.out.below hU) (HL.out.below hU) hN h0 h1
      have TW : Hid (∀ U, Below (w.alloc (.cells #[.int .i64 m, .slice a A.length c] 24)).heap.size (w.alloc (.cells #[.int .i64 m, .slice a A.length c] 24)) U → Calls Try.prog 51 #[.agg #[.int .i64 m, .slice a A.length c], .slice la L.length lc] U fun e w' => e = .returned (.bool (twW A L)) ∧ Below U.heap.size U w') := fun U hU => anyTwice_any A m a c L la lc U (HA.out.below hU) (HL.out.below hU) hN hcap h1
      rw [h1] at AN
      obtain ⟨N, hLN⟩ : ∃ N, L.length = N := ⟨_, rfl⟩
      rw [hLN] at AN LH TW h0 ⊢
      have hi : (0 : Int) < (N : Int) := by omega
      cases h2 : hmW A L with
      | false =>
        rw [h2] at LH
        go_enter Try.func37, Try.ntmps37
        go_upto_region 1 with fail
        generalize w.alloc (.cells #[.int .i64 m, .slice a A.length c] 24) = W0 at *
        go_wp2_with (first
          | (go_at_call 49; (with_reducible refine (AN.out W0 (Below.refl _ _)).mono ?_); rintro e V1 ⟨rfl, q1⟩; have L1 := hiddenN q1; clear q1; have y0 := (X0.out.below L1.out).cell (k := 0) rfl; have y1 := (X0.out.below L1.out).cell (k := 1) rfl; simp only [List.getElem_toArray, List.getElem_cons_zero, List.getElem_cons_succ] at y0 y1)
          | (go_at_call 50; (with_reducible refine (LH.out V1 L1.out).mono ?_); rintro e V2 ⟨rfl, q2⟩; have L2 := hiddenN ((L1.out).trans (q2.mono (L1.out).size)); clear q2))
        go_ret
        exact ⟨by simp; try rfl, B0.out.trans (L2.out.mono B0.out.size)⟩
      | true =>
        rw [h2] at LH
        obtain ⟨tw, htw⟩ : ∃ b, twW A L = b := ⟨_, rfl⟩
        rw [htw] at TW ⊢
        go_enter Try.func37, Try.ntmps37
        go_upto_region 1 with fail
        generalize w.alloc (.cells #[.int .i64 m, .slice a A.length c] 24) = W0 at *
        go_wp2_with (first
          | (go_at_call 49; (with_reducible refine (AN.out W0 (Below.refl _ _)).mono ?_); rintro e V1 ⟨rfl, q1⟩; have L1 := hiddenN q1; clear q1; have y0 := (X0.out.below L1.out).cell (k := 0) rfl; have y1 := (X0.out.below L1.out).cell (k := 1) rfl; simp only [List.getElem_toArray, List.getElem_cons_zero, List.getElem_cons_succ] at y0 y1)
          | (go_at_call 50; (with_reducible refine (LH.out V1 L1.out).mono ?_); rintro e V2 ⟨rfl, q2⟩; have L2 := hiddenN ((L1.out).trans (q2.mono (L1.out).size)); clear q2; have y0 := (X0.out.below L2.out).cell (k := 0) rfl; have y1 := (X0.out.below L2.out).cell (k := 1) rfl; simp only [List.getElem_toArray, List.getElem_cons_zero, List.getElem_cons_succ] at y0 y1)
          | (go_at_call 51; (with_reducible refine (TW.out V2 L2.out).mono ?_); rintro e V3 ⟨rfl, q3⟩; have L3 := hiddenN ((L2.out).trans (q3.mono (L2.out).size)); clear q3))
        go_ret
        exact ⟨by simp [h0]; try rfl, B0.out.trans (L3.out.mono B0.out.size)⟩
  · obtain ⟨N, hLN⟩ : ∃ N, L.length = N := ⟨_, rfl⟩
    rw [hLN] at h0 ⊢
    have hi : ¬ (0 : Int) < (N : Int) := by omega
    go_enter Try.func37, Try.ntmps37
    go_wp2
    go_ret
    exact ⟨by simp, B0.out⟩
theorem posB_of : ∀ {zs : List Int}, (∀ z, z ∈ zs → 1 ≤ z) → posB zs = true
  | [], _ => rfl
  | z :: zs, h => by
    unfold posB
    have h1 := h z (List.mem_cons_self ..)
    have h2 := posB_of fun y hy => h y (List.mem_cons_of_mem _ hy)
    simp [h2]
    omega
theorem inR_of {zs : List Int} (h : ∀ z, z ∈ zs → 0 ≤ z ∧ z ≤ 1000) : InR zs := by
  intro k
  unfold nth
  rw [List.getD_eq_getElem?_getD]
  by_cases hk : k < zs.length
  · rw [List.getElem?_eq_getElem hk]
    have := h _ (List.getElem_mem hk)
    simp only [Option.getD_some]
    omega
  · rw [List.getElem?_eq_none (by omega)]
    decide
theorem SoundN.taken {n : NN} (h : SoundN n) {x : Int × Bool} (hx : inW n.arcs x = true) : (1 ≤ (tkW n.arcs x).g ∧ (tkW n.arcs x).g ≤ 64) ∧ (1 ≤ (tkW n.arcs x).k ∧ (tkW n.arcs x).k ≤ 64) ∧ (0 ≤ stW n.arcs x ∧ stW n.arcs x < n.nodes) ∧ (0 ≤ enW n.arcs x ∧ enW n.arcs x < n.nodes) := by
  obtain ⟨h1, h2⟩ := inW_iff.1 hx
  have hs := h.arcs x.1.toNat (by omega)
  unfold stW enW tkW
  split
  · exact ⟨hs.k, hs.g, hs.t, hs.f⟩
  · exact ⟨hs.g, hs.k, hs.f, hs.t⟩
theorem SoundN.rates {n : NN} (h : SoundN n) {L : List (Int × Bool)} (hm : nmW n.arcs L = true) : (∀ z, z ∈ gvW n.arcs L → 1 ≤ z ∧ z ≤ 64) ∧ (∀ z, z ∈ kpW n.arcs L → 1 ≤ z ∧ z ≤ 64) := by
  constructor
  · intro z hz
    obtain ⟨x, hx, rfl⟩ := List.mem_map.1 hz
    exact (h.taken (nm_iff.1 hm x hx)).1
  · intro z hz
    obtain ⟨x, hx, rfl⟩ := List.mem_map.1 hz
    exact (h.taken (nm_iff.1 hm x hx)).2.1
theorem cyc_named {A : List NA} {L : List (Int × Bool)} (h : cycW A L = true) : nmW A L = true := nm_iff.2 (cyc_iff.1 h).named
theorem rates_eq {n : NN} (h : SoundN n) {L : List (Int × Bool)} (hm : nmW n.arcs L = true) (hl : L.length ≤ 1000) : cE (gvW n.arcs L) (kpW n.arcs L) = 0 ∧ eqB (gvW n.arcs L) (kpW n.arcs L) = alW n.arcs L ∧ InR (gvW n.arcs L) ∧ InR (kpW n.arcs L) := by
  obtain ⟨r1, r2⟩ := h.rates hm
  have e : cE (gvW n.arcs L) (kpW n.arcs L) = 0 := cE_ok (by rw [gv_len]; omega) (by rw [kp_len]; omega) (by rw [posB_of fun z hz => (r1 z hz).1, posB_of fun z hz => (r2 z hz).1]; rfl)
  refine ⟨e, ?_, inR_of fun z hz => ?_, inR_of fun z hz => ?_⟩
  · unfold eqB alW
    rw [decide_eq_true e, Bool.true_and]
  · have := r1 z hz; omega
  · have := r2 z hz; omega
set_option maxRecDepth 100000 in
set_option maxHeartbeats 8000000 in
theorem confirm_any (n : NN) (a : Option Addr) (c : Nat) (L : List (Int × Bool)) (la : Option Addr) (lc : Nat) (w : World) (ha : AtN w a n.arcs) (hln : n.arcs.length ≤ 4611686018427387904) (hl : AtT w la L) (hN : L.length ≤ 4611686018427387904) (hcap : L.length ≤ lc) :
    Calls Try.prog 22 #[.agg #[.int .i64 n.nodes, .slice a n.arcs.length c], .slice la L.length lc] w fun e w' => e = .returned (.int .i64 (conW n L)) ∧ Below w.heap.size w w' := by
  have b0 := (Below.refl w.heap.size w).alloc (Nat.le_refl _) (.cells #[.int .i64 n.nodes, .slice a n.arcs.length c] 24)
  have X0 := hiddenN (blkA_new 24 w #[.int .i64 n.nodes, .slice a n.arcs.length c])
  have B0 := hiddenN b0
  have HA := hiddenN (ha.below b0)
  have HL := hiddenN (hl.below b0)
  have CH := hiddenN (checkN_any n a c _ (ha.below b0) hln)
  have IC : Hid (∀ U, Below (w.alloc (.cells #[.int .i64 n.nodes, .slice a n.arcs.length c] 24)).heap.size (w.alloc (.cells #[.int .i64 n.nodes, .slice a n.arcs.length c] 24)) U → Calls Try.prog 37 #[.agg #[.int .i64 n.nodes, .slice a n.arcs.length c], .slice la L.length lc] U fun e w' => e = .returned (.bool (cycW n.arcs L)) ∧ Below U.heap.size U w') := fun U hU => isCycle_any n.arcs n.nodes a c L la lc U (HA.out.below hU) (HL.out.below hU) hN hcap
  have y0 := X0.out.cell (k := 0) rfl
  have y1 := X0.out.cell (k := 1) rfl
  simp only [List.getElem_toArray, List.getElem_cons_zero, List.getElem_cons_succ] at y0 y1
  clear b0 ha hl
  obtain ⟨E, hE⟩ : ∃ E, conW n L = E := ⟨_, rfl⟩
  rw [hE]
  unfold conW at hE
  by_cases hc : checkN n = 0
  · rw [if_pos hc] at hE
    rw [hc] at CH
    cases h1 : cycW n.arcs L with
    | false =>
      rw [h1] at IC hE
      simp only [Bool.false_eq_true, if_false] at hE
      subst hE
      generalize L.length = N at *
      go_enter Try.func22, Try.ntmps22
      go_upto_region 1 with fail
      generalize w.alloc (.cells #[.int .i64 n.nodes, .slice a n.arcs.length c] 24) = W0 at *
      go_wp2_with (first
        | (go_at_call 24; (with_reducible refine CH.out.mono ?_); rintro e V1 ⟨rfl, q1⟩; have L1 := hiddenN q1; clear q1; have y0 := (X0.out.below L1.out).cell (k := 0) rfl; have y1 := (X0.out.below L1.out).cell (k := 1) rfl; simp only [List.getElem_toArray, List.getElem_cons_zero, List.getElem_cons_succ] at y0 y1)
        | (go_at_call 37; (with_reducible refine (IC.out V1 L1.out).mono ?_); rintro e V2 ⟨rfl, q2⟩; have L2 := hiddenN (L1.out.trans (q2.mono L1.out.size)); clear q2; have y0 := (X0.out.below L2.out).cell (k := 0) rfl; have y1 := (X0.out.below L2.out).cell (k := 1) rfl; simp only [List.getElem_toArray, List.getElem_cons_zero, List.getElem_cons_succ] at y0 y1))
      go_ret
      exact ⟨rfl, B0.out.trans (L2.out.mono B0.out.size)⟩
    | true =>
      have hS := check_sound hc
      have hlen : L.length ≤ 1000 := by have := (cyc_iff.1 h1).few; have := hS.most; omega
      obtain ⟨r0, r1, r2, r3⟩ := rates_eq hS (cyc_named h1) hlen
      have RA : Hid (∀ U, Below (w.alloc (.cells #[.int .i64 n.nodes, .slice a n.arcs.length c] 24)).heap.size (w.alloc (.cells #[.int .i64 n.nodes, .slice a n.arcs.length c] 24)) U → Calls Try.prog 38 #[.agg #[.int .i64 n.nodes, .slice a n.arcs.length c], .slice la L.length lc] U (RatE U (gvW n.arcs L) (kpW n.arcs L))) := fun U hU => rates_any n.arcs n.nodes a c L la lc U (HA.out.below hU) (HL.out.below hU) hlen (cyc_named h1)
      have EQ : Hid (∀ U d1 c1 d2 c2, At U d1 (gvW n.arcs L) → At U d2 (kpW n.arcs L) → Calls Try.prog 39 #[.slice d1 (gvW n.arcs L).length c1, .slice d2 (kpW n.arcs L).length c2] U fun e w' => e = .returned (.tuple #[.bool (alW n.arcs L), .int .i64 0]) ∧ Below U.heap.size U w') := fun U d1 c1 d2 c2 g1 g2 => by
        have q := equal_any d1 d2 (gvW n.arcs L) (kpW n.arcs L) _ c1 _ c2 U rfl rfl (by rw [gv_len]; omega) (by rw [kp_len]; omega) r2 r3 g1 g2
        unfold EqEnd at q
        rw [r0, r1] at q
        exact q
      unfold RatE at RA
      rw [h1] at IC hE
      simp only [if_true] at hE
      clear hS r0 r1 r2 r3 hc h1
      generalize gvW n.arcs L = xs at *
      generalize kpW n.arcs L = ys at *
      cases h2 : alW n.arcs L with
      | false =>
        rw [h2] at EQ hE
        simp only [Bool.false_eq_true, if_false] at hE
        subst hE
        generalize L.length = N at *
        go_enter Try.func22, Try.ntmps22
        go_upto_region 1 with fail
        generalize w.alloc (.cells #[.int .i64 n.nodes, .slice a n.arcs.length c] 24) = W0 at *
        go_wp2_with (first
          | (go_at_call 24; (with_reducible refine CH.out.mono ?_); rintro e V1 ⟨rfl, q1⟩; have L1 := hiddenN q1; clear q1; have y0 := (X0.out.below L1.out).cell (k := 0) rfl; have y1 := (X0.out.below L1.out).cell (k := 1) rfl; simp only [List.getElem_toArray, List.getElem_cons_zero, List.getElem_cons_succ] at y0 y1)
          | (go_at_call 37; (with_reducible refine (IC.out V1 L1.out).mono ?_); rintro e V2 ⟨rfl, q2⟩; have L2 := hiddenN (L1.out.trans (q2.mono L1.out.size)); clear q2; have y0 := (X0.out.below L2.out).cell (k := 0) rfl; have y1 := (X0.out.below L2.out).cell (k := 1) rfl; simp only [List.getElem_toArray, List.getElem_cons_zero, List.getElem_cons_succ] at y0 y1)
          | (go_at_call 38; (with_reducible refine (RA.out V2 L2.out).mono ?_); rintro e V3 ⟨d1, c1, d2, c2, rfl, q3, q4⟩; have R1 := hiddenN q3.r1.at; have R2 := hiddenN q3.r2.at; have L3 := hiddenN (L2.out.trans (q4.mono L2.out.size)); clear q3 q4)
          | (go_at_call 39; (with_reducible refine (EQ.out V3 d1 c1 d2 c2 R1.out R2.out).mono ?_); rintro e V4 ⟨rfl, q4⟩; have L4 := hiddenN (L3.out.trans (q4.mono L3.out.size)); clear q4))
        go_ret
        exact ⟨rfl, B0.out.trans (L4.out.mono B0.out.size)⟩
      | true =>
        rw [h2] at EQ hE
        simp only [if_true] at hE
        subst hE
        generalize L.length = N at *
        go_enter Try.func22, Try.ntmps22
        go_upto_region 1 with fail
        generalize w.alloc (.cells #[.int .i64 n.nodes, .slice a n.arcs.length c] 24) = W0 at *
        go_wp2_with (first
          | (go_at_call 24; (with_reducible refine CH.out.mono ?_); rintro e V1 ⟨rfl, q1⟩; have L1 := hiddenN q1; clear q1; have y0 := (X0.out.below L1.out).cell (k := 0) rfl; have y1 := (X0.out.below L1.out).cell (k := 1) rfl; simp only [List.getElem_toArray, List.getElem_cons_zero, List.getElem_cons_succ] at y0 y1)
          | (go_at_call 37; (with_reducible refine (IC.out V1 L1.out).mono ?_); rintro e V2 ⟨rfl, q2⟩; have L2 := hiddenN (L1.out.trans (q2.mono L1.out.size)); clear q2; have y0 := (X0.out.below L2.out).cell (k := 0) rfl; have y1 := (X0.out.below L2.out).cell (k := 1) rfl; simp only [List.getElem_toArray, List.getElem_cons_zero, List.getElem_cons_succ] at y0 y1)
          | (go_at_call 38; (with_reducible refine (RA.out V2 L2.out).mono ?_); rintro e V3 ⟨d1, c1, d2, c2, rfl, q3, q4⟩; have R1 := hiddenN q3.r1.at; have R2 := hiddenN q3.r2.at; have L3 := hiddenN (L2.out.trans (q4.mono L2.out.size)); clear q3 q4)
          | (go_at_call 39; (with_reducible refine (EQ.out V3 d1 c1 d2 c2 R1.out R2.out).mono ?_); rintro e V4 ⟨rfl, q4⟩; have L4 := hiddenN (L3.out.trans (q4.mono L3.out.size)); clear q4))
        go_ret
        exact ⟨rfl, B0.out.trans (L4.out.mono B0.out.size)⟩
  · rw [if_neg hc] at hE
    have hne : (checkN n != 0) = true := by simpa using hc
    rw [hE] at CH hne
    clear hE hc
    generalize L.length = N at *
    go_enter Try.func22, Try.ntmps22
    go_upto_region 1 with fail
    generalize w.alloc (.cells #[.int .i64 n.nodes, .slice a n.arcs.length c] 24) = W0 at *
    go_wp2_with (go_at_call 24; (with_reducible refine CH.out.mono ?_); rintro e V1 ⟨rfl, q1⟩; have L1 := hiddenN q1; clear q1; have y0 := (X0.out.below L1.out).cell (k := 0) rfl; have y1 := (X0.out.below L1.out).cell (k := 1) rfl; simp only [List.getElem_toArray, List.getElem_cons_zero, List.getElem_cons_succ] at y0 y1)
    go_ret
    exact ⟨rfl, B0.out.trans (L1.out.mono B0.out.size)⟩
/-- Counts that hold, for any node. -/
def extB (N : Nat) (R : List Int) : Nat → Nat := fun v => if v < N then natB R v else 1
theorem ho_yes {n : NN} {R : List Int} (h : hoB n R = true) : checkN n = 0 ∧ (R.length : Int) = n.nodes ∧ winB R = true ∧ ∀ j, j < n.arcs.length → EvB n.arcs (natB R) j := by
  unfold hoB at h
  rw [Bool.and_eq_true, Bool.and_eq_true, Bool.and_eq_true, decide_eq_true_eq, decide_eq_true_eq] at h
  obtain ⟨h1, h2, h3, h4⟩ := h
  refine ⟨h1, h2, h3, fuB_all ?_⟩
  cases q : fuB n.arcs (natB R) with
  | none => rfl
  | some i => rw [q] at h4; cases h4
theorem ho_ext {n : NN} {R : List Int} (h : hoB n R = true) : (∀ v, 1 ≤ extB n.nodes.toNat R v) ∧ (∀ j, j < n.arcs.length → EvB n.arcs (extB n.nodes.toNat R) j) ∧ ∀ v, v < n.nodes.toNat → extB n.nodes.toNat R v = natB R v ∧ natB R v ≤ 4096 ∧ nth R v = (natB R v : Int) := by
  obtain ⟨h1, h2, h3, h4⟩ := ho_yes h
  have hS := check_sound h1
  have SB := hS.souB
  have hw := winB_iff.1 h3
  refine ⟨fun v => ?_, fun j hj => ?_, fun v hv => ?_⟩
  · unfold extB
    split
    · rename_i hv
      have := hw v (by omega)
      unfold natB
      omega
    · exact Nat.le_refl _
  · obtain ⟨q1, q2⟩ := SB.arc j hj
    have q := h4 j hj
    unfold EvB at q ⊢
    unfold extB
    rw [if_pos q1, if_pos q2]
    exact q
  · have := hw v (by omega)
    refine ⟨if_pos hv, ?_, ?_⟩ <;> (unfold natB; omega)
/-- If some counts hold, the answer is steady. -/
theorem ho_steady {n : NN} {R : List Int} (h : hoB n R = true) : bigA n = false ∧ fuB n.arcs (cnt n) = none := by
  obtain ⟨h1, h2, h3, h4⟩ := ho_yes h
  obtain ⟨e1, e2, e3⟩ := ho_ext h
  have SB := (check_sound h1).souB
  obtain ⟨q1, q2⟩ := holdB SB.rat e1 e2
  refine ⟨bigN_no.2 fun v hv => ?_, fuB_none q1⟩
  have := (q2 v).2
  have := e3 v hv
  show cntB _ _ v ≤ _
  omega
theorem path_of {n : NN} {i : Nat} (hc : checkN n = 0) (hi : i < n.arcs.length) : ∃ P, cycB n i = (i, false) :: P ∧ WaF n.arcs (treF n.arcs n.arcs.length) (tN n.arcs i) P (fN n.arcs i) ∧ NbF none P := by
  have hS := check_sound hc
  have SB := hS.souB
  obtain ⟨e1, e2, -, -, l1, l2, -⟩ := SB.ends i hi
  have hN := hS.nodes
  have TL := tree_lt hS
  have hne : dfsF n.arcs (treF n.arcs n.arcs.length) (fN n.arcs i) (n.nodes.toNat + 1) (tN n.arcs i) none ≠ none := (dfs_home (fun j hj => (TL j hj).1) (fun j hj => (TL j hj).2) (tN n.arcs i) (fN n.arcs i)).2 ((forF n.arcs n.arcs.length).ends i hi).symm
  cases q : dfsF n.arcs (treF n.arcs n.arcs.length) (fN n.arcs i) (n.nodes.toNat + 1) (tN n.arcs i) none with
  | none => exact absurd q hne
  | some P =>
    obtain ⟨p1, p2⟩ := dfsF_sound q
    refine ⟨P, ?_, p1, p2⟩
    have eP : (pathP n (nthNa n.arcs i).t (nthNa n.arcs i).f).1 = P := by
      unfold pathP
      rw [if_pos hc, if_pos ⟨by unfold nodB; simp; omega, by unfold nodB; simp; omega⟩]
      unfold pathD
      rw [e1, e2, Int.toNat_natCast, Int.toNat_natCast, q]
    unfold cycB
    rw [eP]
theorem odd_con {n : NN} {i : Nat} (hc : checkN n = 0) (hf : fuB n.arcs (cnt n) = some i) : conW n (toW (cycB n i)) = 0 := by
  obtain ⟨hi, hne, -⟩ := fuB_some hf
  have SB := (check_sound hc).souB
  obtain ⟨P, e, p1, p2⟩ := path_of hc hi
  rw [e]
  exact unlike_con hc SB.rat (fun j hj => ⟨(SB.ends j hj).1, (SB.ends j hj).2.1⟩) hi hne p1 p2
theorem AtS.toT {w : World} {a : Option Addr} {L : List (Nat × Bool)} (h : AtS w a L) : AtT w a (toW L) := by
  rcases h with h | ⟨b, off, e, hc⟩
  · exact .inl (by rw [h]; rfl)
  · refine .inr ⟨b, off, e, fun k hk => ?_⟩
    have hk' : k < L.length := by unfold toW at hk; simpa using hk
    have en : nthT (toW L) k = (((nthS L k).1 : Int), (nthS L k).2) := by
      unfold nthT nthS toW
      rw [List.getD_eq_getElem?_getD, List.getD_eq_getElem?_getD, List.getElem?_map, List.getElem?_eq_getElem hk']
      rfl
    rw [en]
    exact hc k hk'
theorem toW_len (L : List (Nat × Bool)) : (toW L).length = L.length := by unfold toW; simp
theorem cyc_len (n : NN) (i : Nat) : (cycB n i).length ≤ 34 := by
  have := pathP_len n (nthNa n.arcs i).t (nthNa n.arcs i).f
  unfold cycB
  simp
  omega
set_option maxRecDepth 100000 in
set_option maxHeartbeats 16000000 in
theorem balanceUnlike_walk (n : NN) (a : Option Addr) (c : Nat) (ra : Option Addr) (rlen rc : Nat) (rs : List Int) (w : World) (h : ArgN w a c n) (hr : Arg w ra rlen rc rs) : Calls Try.prog 7 #[.agg #[.int .i64 n.nodes, .slice a n.arcs.length c], .slice ra rlen rc] w fun e w' => e = .returned (.bool true) ∧ Below w.heap.size w w' := by
  have b0 := (Below.refl w.heap.size w).alloc (Nat.le_refl _) (.cells #[.int .i64 n.nodes, .slice a n.arcs.length c] 24)
  have X0 := hiddenN (blkA_new 24 w #[.int .i64 n.nodes, .slice a n.arcs.length c])
  have B0 := hiddenN b0
  have HA := hiddenN (h.below b0)
  have hroom : n.arcs.length ≤ 4611686018427387904 := by have := h.room; omega
  have AW : Hid (∀ U, Calls Try.prog 13 #[] U fun e w' => e = .returned (.bool true) ∧ Below U.heap.size U w') := fun U => awakeB U
  have y0 := X0.out.cell (k := 0) rfl
  have y1 := X0.out.cell (k := 1) rfl
  simp only [List.getElem_toArray, List.getElem_cons_zero, List.getElem_cons_succ] at y0 y1
  have HR : Hid (∀ U, Below w.heap.size w U → At U ra rs) := fun U hU => hr.lies.below hU
  have hrl := hr.reach
  have hrs := hr.size
  have HO := hiddenN (fun (U : World) (g1 : AtN U a n.arcs) (g2 : At U ra rs) => holds_any n a c rs ra rc U g1 hroom g2 (by omega))
  rw [hrs] at HO
  clear b0 h hr hrs
  by_cases hc : checkN n = 0
  · cases hb : bigA n with
    | true =>
      have SO := hiddenN (solve_big hc hb a c _ HA.out.lies hroom)
      have hno : hoB n rs = false := by
        cases q : hoB n rs with
        | false => rfl
        | true => rw [(ho_steady q).1] at hb; cases hb
      rw [hno] at HO
      clear hc hb hno
      generalize hoE n rs = he at *
      go_enter Try.func7, Try.ntmps7
      go_upto_region 1 with fail
      generalize w.alloc (.cells #[.int .i64 n.nodes, .slice a n.arcs.length c] 24) = W0 at *
      go_upto_region 2 with (go_at_call 16; (with_reducible refine SO.out.mono ?_); rintro e W1 ⟨d1, c1, d2, c2, rfl, b1⟩; have L1 := hiddenN (B0.out.trans (b1.mono B0.out.size)); have N1 := hiddenN (X0.out.below b1); have A1 := hiddenN (HA.out.below b1); clear b1)
      clear SO y0 y1
      have b2 := (Below.refl W1.heap.size W1).alloc (Nat.le_refl _) (.cells #[.int .u8 3, .slice d1 0 c1, .slice d2 0 c2] 37)
      have X2 := hiddenN (blkA_new 37 W1 #[.int .u8 3, .slice d1 0 c1, .slice d2 0 c2])
      have L2 := hiddenN (L1.out.trans (b2.mono L1.out.size))
      have N2 := hiddenN (N1.out.below b2)
      have A2 := hiddenN (A1.out.below b2)
      obtain ⟨xb, hxb⟩ : ∃ q, W1.heap.size = q := ⟨_, rfl⟩
      rw [hxb] at X2 ⊢
      clear b2 L1 N1 A1 hxb X0 B0 HA
      generalize W1.alloc (.cells #[.int .u8 3, .slice d1 0 c1, .slice d2 0 c2] 37) = W2 at *
      have x0 := X2.out.cell (k := 0) rfl
      have x1 := X2.out.cell (k := 1) rfl
      have x2 := X2.out.cell (k := 2) rfl
      have y0 := N2.out.cell (k := 0) rfl
      have y1 := N2.out.cell (k := 1) rfl
      simp only [List.getElem_toArray, List.getElem_cons_zero, List.getElem_cons_succ] at x0 x1 x2 y0 y1
      go_wp2_with (first
        | (go_at_call 13; (with_reducible refine (AW.out _).mono ?_); rintro e W4 ⟨rfl, bw⟩; have L4 := hiddenN (L3.out.trans (bw.mono L3.out.size)); clear bw)
        | (go_at_call 11; (with_reducible refine (HO.out _ A2.out.lies (HR.out _ L2.out)).mono ?_); rintro e W3 ⟨rfl, bh⟩; have L3 := hiddenN (L2.out.trans (bh.mono L2.out.size)); have BH := hiddenN bh; have x0 := (X2.out.below bh).cell (k := 0) rfl; have x1 := (X2.out.below bh).cell (k := 1) rfl; have x2 := (X2.out.below bh).cell (k := 2) rfl; simp only [List.getElem_toArray, List.getElem_cons_zero, List.getElem_cons_succ] at x0 x1 x2; have y0 := (N2.out.below bh).cell (k := 0) rfl; have y1 := (N2.out.below bh).cell (k := 1) rfl; simp only [List.getElem_toArray, List.getElem_cons_zero, List.getElem_cons_succ] at y0 y1; clear bh))
      go_ret
      exact ⟨rfl, L4.out⟩
    | false =>
      cases hf : fuB n.arcs (cnt n) with
      | some i =>
        have SO := hiddenN (solve_odd hc hb hf a c _ HA.out.lies hroom)
        have hno : hoB n rs = false := by
          cases q : hoB n rs with
          | false => rfl
          | true => rw [(ho_steady q).2] at hf; cases hf
        rw [hno] at HO
        have CO := hiddenN (fun (U : World) (d : Option Addr) (cc : Nat) (g1 : AtN U a n.arcs) (g2 : AtS U d (cycB n i)) (g3 : (cycB n i).length ≤ cc) => confirm_any n a c (toW (cycB n i)) d cc U g1 hroom g2.toT (by rw [toW_len]; have := cyc_len n i; omega) (by rw [toW_len]; exact g3))
        rw [odd_con hc hf, toW_len] at CO
        clear hc hb hf hno
        generalize hoE n rs = he at *
        generalize cycB n i = C at *
        go_enter Try.func7, Try.ntmps7
        go_upto_region 1 with fail
        generalize w.alloc (.cells #[.int .i64 n.nodes, .slice a n.arcs.length c] 24) = W0 at *
        go_upto_region 2 with (go_at_call 16; (with_reducible refine SO.out.mono ?_); rintro e W1 ⟨d1, c1, d2, c2, rfl, q1, b1⟩; have C1 := hiddenN (q1.mono B0.out.size); have L1 := hiddenN (B0.out.trans (b1.mono B0.out.size)); have N1 := hiddenN (X0.out.below b1); have A1 := hiddenN (HA.out.below b1); clear b1 q1)
        clear SO y0 y1
        have b2 := (Below.refl W1.heap.size W1).alloc (Nat.le_refl _) (.cells #[.int .u8 2, .slice d1 0 c1, .slice d2 C.length c2] 37)
        have X2 := hiddenN (blkA_new 37 W1 #[.int .u8 2, .slice d1 0 c1, .slice d2 C.length c2])
        have C2 := hiddenN (C1.out.later b2)
        have L2 := hiddenN (L1.out.trans (b2.mono L1.out.size))
        have N2 := hiddenN (N1.out.below b2)
        have A2 := hiddenN (A1.out.below b2)
        obtain ⟨xb, hxb⟩ : ∃ q, W1.heap.size = q := ⟨_, rfl⟩
        rw [hxb] at X2 ⊢
        clear b2 L1 N1 A1 hxb X0 B0 HA
        generalize W1.alloc (.cells #[.int .u8 2, .slice d1 0 c1, .slice d2 C.length c2] 37) = W2 at *
        have x0 := X2.out.cell (k := 0) rfl
        have x1 := X2.out.cell (k := 1) rfl
        have x2 := X2.out.cell (k := 2) rfl
        have y0 := N2.out.cell (k := 0) rfl
        have y1 := N2.out.cell (k := 1) rfl
        simp only [List.getElem_toArray, List.getElem_cons_zero, List.getElem_cons_succ] at x0 x1 x2 y0 y1
        go_wp2_with (first
          | (go_at_call 13; (with_reducible refine (AW.out _).mono ?_); rintro e W5 ⟨rfl, bw⟩; have L5 := hiddenN (L4.out.trans (bw.mono L4.out.size)); clear bw)
          | (go_at_call 22; (with_reducible refine (CO.out _ d2 c2 (A2.out.lies.below BH.out) (C2.out.at.below BH.out) C2.out.room.1).mono ?_); rintro e W4 ⟨rfl, b4⟩; have L4 := hiddenN (L3.out.trans (b4.mono L3.out.size)); clear b4)
          | (go_at_call 11; (with_reducible refine (HO.out _ A2.out.lies (HR.out _ L2.out)).mono ?_); rintro e W3 ⟨rfl, bh⟩; have L3 := hiddenN (L2.out.trans (bh.mono L2.out.size)); have BH := hiddenN bh; have x0 := (X2.out.below bh).cell (k := 0) rfl; have x1 := (X2.out.below bh).cell (k := 1) rfl; have x2 := (X2.out.below bh).cell (k := 2) rfl; simp only [List.getElem_toArray, List.getElem_cons_zero, List.getElem_cons_succ] at x0 x1 x2; have y0 := (N2.out.below bh).cell (k := 0) rfl; have y1 := (N2.out.below bh).cell (k := 1) rfl; simp only [List.getElem_toArray, List.getElem_cons_zero, List.getElem_cons_succ] at y0 y1; clear bh))
        go_ret
        exact ⟨rfl, L5.out⟩
      | none =>
        have SO := hiddenN (solve_even hc hb hf a c _ HA.out.lies hroom)
        clear hc hb hf
        generalize rowF n.nodes.toNat (cnt n) = RR at *
        generalize n.nodes.toNat = N at *
        go_enter Try.func7, Try.ntmps7
        go_upto_region 1 with fail
        generalize w.alloc (.cells #[.int .i64 n.nodes, .slice a n.arcs.length c] 24) = W0 at *
        go_upto_region 2 with (go_at_call 16; (with_reducible refine SO.out.mono ?_); rintro e W1 ⟨d1, c1, d2, c2, rfl, q1, b1⟩; have R1 := hiddenN (q1.mono B0.out.size); have L1 := hiddenN (B0.out.trans (b1.mono B0.out.size)); have N1 := hiddenN (X0.out.below b1); have A1 := hiddenN (HA.out.below b1); clear b1 q1)
        clear SO y0 y1
        have b2 := (Below.refl W1.heap.size W1).alloc (Nat.le_refl _) (.cells #[.int .u8 1, .slice d1 N c1, .slice d2 0 c2] 37)
        have X2 := hiddenN (blkA_new 37 W1 #[.int .u8 1, .slice d1 N c1, .slice d2 0 c2])
        have R2 := hiddenN (R1.out.later b2)
        have L2 := hiddenN (L1.out.trans (b2.mono L1.out.size))
        have N2 := hiddenN (N1.out.below b2)
        have A2 := hiddenN (A1.out.below b2)
        obtain ⟨xb, hxb⟩ : ∃ q, W1.heap.size = q := ⟨_, rfl⟩
        rw [hxb] at X2 ⊢
        clear b2 L1 N1 A1 hxb X0 B0 HA
        generalize W1.alloc (.cells #[.int .u8 1, .slice d1 N c1, .slice d2 0 c2] 37) = W2 at *
        have x0 := X2.out.cell (k := 0) rfl
        have x1 := X2.out.cell (k := 1) rfl
        have x2 := X2.out.cell (k := 2) rfl
        have y0 := N2.out.cell (k := 0) rfl
        have y1 := N2.out.cell (k := 1) rfl
        simp only [List.getElem_toArray, List.getElem_cons_zero, List.getElem_cons_succ] at x0 x1 x2 y0 y1
        go_wp2_with (go_at_call 13; (with_reducible refine (AW.out _).mono ?_); rintro e W3 ⟨rfl, bw⟩; have L3 := hiddenN (L2.out.trans (bw.mono L2.out.size)); clear bw)
        go_ret
        exact ⟨rfl, L3.out⟩
  · have SO := hiddenN (solve_bad hc a c _ HA.out.lies hroom)
    have CO : Hid (∀ U, AtN U a n.arcs → Calls Try.prog 22 #[.agg #[.int .i64 n.nodes, .slice a n.arcs.length c], .slice none 0 0] U fun e w' => e = .returned (.int .i64 (checkN n)) ∧ Below U.heap.size U w') := fun U g1 => by
      have q := confirm_any n a c [] none 0 U g1 hroom (.inl rfl) (by decide) (by decide)
      unfold conW at q
      rw [if_neg hc] at q
      exact q
    have hcb : (checkN n != 0) = true := by simpa using hc
    have hce : (checkN n == checkN n) = true := by simp
    clear hc
    generalize checkN n = cd at *
    go_enter Try.func7, Try.ntmps7
    go_upto_region 1 with fail
    generalize w.alloc (.cells #[.int .i64 n.nodes, .slice a n.arcs.length c] 24) = W0 at *
    go_upto_region 2 with (go_at_call 16; (with_reducible refine SO.out.mono ?_); rintro e W1 ⟨d1, c1, d2, c2, rfl, b1⟩; have L1 := hiddenN (B0.out.trans (b1.mono B0.out.size)); have N1 := hiddenN (X0.out.below b1); have A1 := hiddenN (HA.out.below b1); clear b1)
    clear SO y0 y1
    have b2 := (Below.refl W1.heap.size W1).alloc (Nat.le_refl _) (.cells #[.int .u8 0, .slice d1 0 c1, .slice d2 0 c2] 37)
    have X2 := hiddenN (blkA_new 37 W1 #[.int .u8 0, .slice d1 0 c1, .slice d2 0 c2])
    have L2 := hiddenN (L1.out.trans (b2.mono L1.out.size))
    have N2 := hiddenN (N1.out.below b2)
    have A2 := hiddenN (A1.out.below b2)
    obtain ⟨xb, hxb⟩ : ∃ q, W1.heap.size = q := ⟨_, rfl⟩
    rw [hxb] at X2 ⊢
    clear b2 L1 N1 A1 hxb X0 B0 HA
    generalize W1.alloc (.cells #[.int .u8 0, .slice d1 0 c1, .slice d2 0 c2] 37) = W2 at *
    have x0 := X2.out.cell (k := 0) rfl
    have x1 := X2.out.cell (k := 1) rfl
    have x2 := X2.out.cell (k := 2) rfl
    have y0 := N2.out.cell (k := 0) rfl
    have y1 := N2.out.cell (k := 1) rfl
    simp only [List.getElem_toArray, List.getElem_cons_zero, List.getElem_cons_succ] at x0 x1 x2 y0 y1
    go_wp2_with (first
      | (go_at_call 13; (with_reducible refine (AW.out _).mono ?_); rintro e W4 ⟨rfl, bw⟩; have L4 := hiddenN (L3.out.trans (bw.mono L3.out.size)); clear bw)
      | (go_at_call 22; (with_reducible refine (CO.out _ A2.out.lies).mono ?_); rintro e W3 ⟨rfl, b3⟩; have L3 := hiddenN (L2.out.trans (b3.mono L2.out.size)); clear b3))
    go_ret
    exact ⟨rfl, L4.out⟩
end Go.Proofs.Ytecmkienoofccaa
