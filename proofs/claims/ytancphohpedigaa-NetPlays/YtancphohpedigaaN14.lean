/- The walk of NetEquation. (Written by tmpl/mkN14.py.) -/
import Derived.Test.YtancphohpedigaaN13
import Derived.Test.YtancphohpedigaaNE
namespace Go.Proofs.Ytancphohpedigaa
open Go.ChangeShapes Go.WideShapes Go.ChangeAt Go.RowKit

/-- Rows of numbers that came in. -/
def RowsN (W : World) (a : Option Addr) (I : List (List Int)) : Prop := I = [] ∨ ∃ b off, a = some ⟨b, off, none⟩ ∧ ∀ k, k < I.length → ∃ x c, W.cell? ⟨b, off + k, none⟩ = some (.slice x (nthRw I k).length c) ∧ Arg W x (nthRw I k).length c (nthRw I k)
theorem RowsN.below {w w' : World} {a : Option Addr} {I : List (List Int)} (h : RowsN w a I) (hb : Below w.heap.size w w') : RowsN w' a I := by
  rcases h with h | ⟨b, off, e, hc⟩
  · exact .inl h
  · refine .inr ⟨b, off, e, fun k hk => ?_⟩
    obtain ⟨x, c, h1, h2⟩ := hc k hk
    exact ⟨x, c, cellN_later hb h1, h2.below hb⟩
structure ArgRw (w : World) (a : Option Addr) (len : Nat) (I : List (List Int)) : Prop where
  size : I.length = len
  lies : RowsN w a I
  tot : totN I ≤ 2097152
  room : len ≤ 2097152
theorem tot_row : ∀ {I : List (List Int)} {q : Nat}, q < I.length → (nthRw I q).length ≤ totN I
  | [], q, h => absurd h (Nat.not_lt_zero _)
  | r :: I, 0, _ => by show r.length ≤ r.length + totN I; omega
  | r :: I, q + 1, h => by
    have := tot_row (I := I) (q := q) (Nat.lt_of_succ_lt_succ h)
    show (nthRw I q).length ≤ r.length + totN I
    omega
theorem StE.long {B E : Nat} {w : World} {K : Nat} {n : NN} {T F : List Int} (h : StE B E w K n T F) : T.length = n.arcs.length ∧ F.length = n.nodes.toNat := by
  obtain ⟨aA, cA, H1, H2, D1, D2, E1, E2, aT, cT, gF, h⟩ := h
  exact ⟨h.lT, h.lF⟩
theorem firedL {B E : Nat} (w : World) (K : Nat) (n : NN) (T F : List Int) (h : StE B E w K n T F) : Calls Try.prog 23 #[.pointer (some ⟨K, 0, none⟩)] w fun e w' => ∃ (a : Option Addr) (cap : Nat), e = .returned (.slice a n.nodes.toNat cap) ∧ CapR w.heap.size w' a cap F ∧ Below w.heap.size w w' := by
  have r := fired_any w K n T F h
  unfold RowEndN at r
  rw [h.long.2] at r
  exact r
theorem countsL {B E : Nat} (w : World) (K : Nat) (n : NN) (T F : List Int) (h : StE B E w K n T F) : Calls Try.prog 24 #[.pointer (some ⟨K, 0, none⟩)] w fun e w' => ∃ (a : Option Addr) (cap : Nat), e = .returned (.slice a n.arcs.length cap) ∧ CapR w.heap.size w' a cap T ∧ Below w.heap.size w w' := by
  have r := counts_any w K n T F h
  unfold RowEndN at r
  rw [h.long.1] at r
  exact r
theorem But.keepN {g : Nat} {w w' : World} (h : But g w w') {b k : Nat} {v : Value} (hn : b ≠ g) (hc : w.cell? ⟨b, k, none⟩ = some v) : w'.cell? ⟨b, k, none⟩ = some v := cell_block (h.block b (block_lt_of_cell hc) hn) hc

set_option maxRecDepth 100000 in
set_option maxHeartbeats 16000000 in
theorem netEquation_walk (n : NN) (a : Option Addr) (c : Nat) (a1 : Option Addr) (len1 cap1 : Nat) (I : List (List Int)) (w : World) (h : ArgN w a c n) (h1 : ArgRw w a1 len1 I) : Calls Try.prog 6 #[.agg #[.int .i64 n.nodes, .slice a n.arcs.length c], .slice a1 len1 cap1] w fun e w' => e = .returned (.bool true) ∧ Below w.heap.size w w' := by
  have b0 := (Below.refl w.heap.size w).alloc (Nat.le_refl _) (.cells #[.int .i64 n.nodes, .slice a n.arcs.length c] 24)
  have G0 := hiddenN (blkA_new 24 w #[.int .i64 n.nodes, .slice a n.arcs.length c])
  have B0 := hiddenN b0
  have AW : Hid (∀ U, Calls Try.prog 14 #[] U fun e w' => e = .returned (.bool true) ∧ Below U.heap.size U w') := fun U => awakeN U
  have z0 := G0.out.cell (k := 0) rfl
  have z1 := G0.out.cell (k := 1) rfl
  simp only [List.getElem_toArray, List.getElem_cons_zero, List.getElem_cons_succ] at z0 z1
  clear b0
  obtain rfl := h1.size
  by_cases hc0 : checkN n = 0
  · have hS := check_sound hc0
    have NY : Hid (∀ U, Below w.heap.size w U → Calls Try.prog 12 #[.agg #[.int .i64 n.nodes, .slice a n.arcs.length c]] U fun e w' => ∃ K E, e = .returned (.tuple #[.pointer (some ⟨K, 0, none⟩), .int .i64 0]) ∧ StE U.heap.size E w' K n (startT n) (List.replicate n.nodes.toNat 0) ∧ Below U.heap.size U w') := fun U hb => new_yes n a c w h hc0 U hb
    have H1 := hiddenN h1
    have HA := hiddenN h
    have EQ0 := hiddenN (start_eq hS (T := startT n) rfl)
    have hnn := nodes_nat hS
    obtain ⟨Nn, hNn⟩ : ∃ k, n.nodes.toNat = k := ⟨_, rfl⟩
    have FDL : Hid (∀ (B E K : Nat) (U : World) (T F : List Int), StE B E U K n T F → Calls Try.prog 23 #[.pointer (some ⟨K, 0, none⟩)] U fun e w' => ∃ (a : Option Addr) (cap : Nat), e = .returned (.slice a Nn cap) ∧ CapR U.heap.size w' a cap F ∧ Below U.heap.size U w') := fun B E K U T F hs => by
      have r := firedL U K n T F hs
      rw [hNn] at r
      exact r
    have LNG : Hid (∀ (B E K : Nat) (U : World) (T F : List Int), StE B E U K n T F → T.length = n.arcs.length ∧ F.length = Nn) := fun B E K U T F hs => by
      have r := hs.long
      rw [hNn] at r
      exact r
    have NDB : Hid (∀ v : Int, nodeB n v = true → ∃ vn : Nat, v = (vn : Int) ∧ vn < Nn ∧ (vn : Int) < n.nodes) := fun v hv => by
      have hv : 0 ≤ v ∧ v < n.nodes := of_decide_eq_true hv
      exact ⟨v.toNat, by omega, by omega, by omega⟩
    rw [hNn] at hnn
    have hf1 : ((Nn : Int) != n.nodes) = false := by rw [bne_eq_false_iff_eq]; exact hnn.1
    have hN2 := hnn.2
    have HNI := hiddenN hnn.1
    have HNN := hiddenN hNn
    clear hnn
    have HSN := hiddenN hS
    have hroom := h1.room
    have htot := h1.tot
    clear h1 h hS hc0
    generalize startT n = T0 at *
    generalize List.replicate n.nodes.toNat (0 : Int) = F0 at *
    go_enter Try.func6, Try.ntmps6
    go_upto_region 1 with fail
    generalize w.alloc (.cells #[.int .i64 n.nodes, .slice a n.arcs.length c] 24) = W0 at *
    go_upto_region 6 with (go_at_call 12; (with_reducible refine (NY.out _ B0.out).mono ?_); rintro e W1 ⟨K, E, rfl, s1, b1⟩; have S1 := hiddenN s1; have L1 := hiddenN (B0.out.trans (b1.mono B0.out.size)); have G1 := hiddenN (G0.out.below b1); clear s1 b1 z0 z1)
    have hw0 := B0.out.size
    obtain ⟨B, hB⟩ : ∃ B, W0.heap.size = B := ⟨_, rfl⟩
    rw [hB] at S1
    have hBB : w.heap.size ≤ B := by rw [← hB]; exact hw0
    have hgb : w.heap.size < B := by rw [← hB]; exact G0.out.lt
    clear G0 NY B0 hB hw0
    go_wp2
    go_loopg [7] I.length (fun gk v7 wr => ∃ (q : Nat) (T F : List Int) (m : Nat), q ≤ I.length ∧ gk = I.length - q ∧ v7 = .int .i64 (q : Int) ∧ StE B E wr K n T F ∧ EqN n (m : Int) T F ∧ m + totN (I.drop q) ≤ 2097152 ∧ BlkA 24 w.heap.size wr #[.int .i64 n.nodes, .slice a n.arcs.length c] ∧ Below w.heap.size w wr)
    case atStart => exact ⟨0, T0, F0, 0, Nat.zero_le _, rfl, rfl, S1.out, EQ0.out, by rw [List.drop_zero]; omega, G1.out, L1.out⟩
    case round =>
      clear S1 L1 G1 EQ0
      obtain ⟨q, T, F, m, hq, rfl, rfl, hSt, hEq, hmt, hG, hbw⟩ := hrel
      have HST := hiddenN hSt
      have HEQ := hiddenN hEq
      have HG := hiddenN hG
      have HW := hiddenN hbw
      clear hSt hEq hG hbw
      by_cases hlt : q < I.length
      · have hki : (q : Int) < (I.length : Int) := by omega
        have FD := hiddenN (FDL.out _ _ _ _ _ _ HST.out)
        rw [drop_rw hlt] at hmt
        have hzl : (nthRw I q).length ≤ 2097152 := Nat.le_trans (tot_row hlt) htot
        have hmt2 : m + (nthRw I q).length + totN (I.drop (q + 1)) ≤ 2097152 := by simp only [totN] at hmt; omega
        have LR : Hid (∀ U, Below w.heap.size w U → ∃ b off x cx, a1 = some ⟨b, off, none⟩ ∧ U.cell? ⟨b, off + q, none⟩ = some (.slice x (nthRw I q).length cx) ∧ Arg U x (nthRw I q).length cx (nthRw I q)) := fun U hb => by
          rcases H1.out.lies.below hb with e | ⟨b, off, e, hc⟩
          · rw [e] at hlt; simp at hlt
          · obtain ⟨x, cx, h2, h3⟩ := hc q hlt
            exact ⟨b, off, x, cx, e, h2, h3⟩
        obtain ⟨rb, ro, zx, zc, ea, cr0, az0⟩ := LR.out w (Below.refl _ _)
        subst ea
        have cr : Hid (∀ U, Below w.heap.size w U → U.cell? ⟨rb, ro + q, none⟩ = some (.slice zx (nthRw I q).length zc)) := fun U hb => cellN_later hb cr0
        have AZ := hiddenN az0
        have EQ1 := hiddenN (fires_eq HSN.out (nthRw I q) T F (m : Int) HEQ.out (by omega))
        have FB := hiddenN (fires_bumps n (nthRw I q) T F)
        have FL := fires_le n (nthRw I q) T F
        have FN := fires_len n (nthRw I q) T F
        have hTF := LNG.out _ _ _ _ _ _ HST.out
        clear LR cr0 az0 hmt
        generalize nthRw I q = zs at *
        go_upto_region 10 with (go_at_call 23; (with_reducible refine FD.out.mono ?_); rintro e W2 ⟨d8, c8, rfl, h8, b8⟩; have C8 := hiddenN h8; have S2 := hiddenN (HST.out.below b8); have L2 := hiddenN (HW.out.trans (b8.mono HW.out.size)); have G2 := hiddenN (HG.out.below b8); have hs2 := b8.size; have D8 := hiddenN h8.lt; clear h8 b8)
        have F1 := hiddenN (fires_any W2 K n T F S2.out zx zc zs (AZ.out.lies.below L2.out) (by omega) (fun x hx hne => .inl (by have := at_lt AZ.out.lies hne hx; omega)))
        have cr2 := cr.out _ L2.out
        have hE2 := S2.out.low
        have hEr := HST.out.low
        obtain ⟨r, hr⟩ : ∃ r, firesN n zs T F = r := ⟨_, rfl⟩
        rw [hr] at F1 EQ1 FB FL FN
        obtain ⟨rn, T', F'⟩ := r
        simp only at F1 EQ1 FB FL FN
        clear hr FD
        go_upto_region 11 with (go_at_call 20; (with_reducible refine F1.out.mono ?_); rintro e W3 ⟨rfl, s3, m3⟩; have S3 := hiddenN s3; have C8' := hiddenN (C8.out.mid m3 hEr.2); have L3 := hiddenN (L2.out.trans ((m3.below hE2.1).mono hBB)); have G3 := hiddenN (G2.out.keep (m3.block _ G2.out.lt (.inl hgb))); have hs3 := m3.size; clear s3 m3 cr2)
        clear F1 C8 S2 L2 G2 HST HW HG
        have D1 := hiddenN (FDL.out _ _ _ _ _ _ S3.out)
        go_upto_region 12 with (go_at_call 23; (with_reducible refine D1.out.mono ?_); rintro e W4 ⟨d10, c10, rfl, h10, b10⟩; have C10 := hiddenN h10; have S4 := hiddenN (S3.out.below b10); have C8 := hiddenN (C8'.out.later b10); have L4 := hiddenN (L3.out.trans (b10.mono L3.out.size)); have G4 := hiddenN (G3.out.below b10); have hs4 := b10.size; clear h10 b10)
        have X1 := hiddenN (countsL W4 K n T' F' S4.out)
        clear D1 C8' S3 L3 G3
        go_upto_region 13 with (go_at_call 24; (with_reducible refine X1.out.mono ?_); rintro e W5 ⟨d11, c11, rfl, h11, b11⟩; have C11 := hiddenN h11; have S5 := hiddenN (S4.out.below b11); have C8' := hiddenN (C8.out.later b11); have C10' := hiddenN (C10.out.later b11); have L5 := hiddenN (L4.out.trans (b11.mono L4.out.size)); have G5 := hiddenN (G4.out.below b11); have hs5 := b11.size; clear h11 b11)
        clear X1 C8 C10 S4 L4 G4
        have hTF' := LNG.out _ _ _ _ _ _ S5.out
        obtain ⟨Q0, hQ0⟩ : ∃ Q0, wr.heap.size = Q0 := ⟨_, rfl⟩
        rw [hQ0] at C8' D8 hEr
        have hwQ : w.heap.size < Q0 := by omega
        obtain ⟨g8, e8, hg8, -⟩ := C8'.out.there (by rw [hTF.2]; omega)
        subst e8
        have hg82 : g8 < W2.heap.size := (D8.out _ rfl).2
        clear D8 hQ0
        have hk0 : ¬ (rn : Int) < 0 := by omega
        have hk1 : ¬ (zs.length : Int) < (rn : Int) := by omega
        have hf3 : ((n.arcs.length : Int) != (n.arcs.length : Int)) = false := by simp
        have cr5 := cr.out _ L5.out
        have g50 := G5.out.cell (k := 0) rfl
        have g51 := G5.out.cell (k := 1) rfl
        simp only [List.getElem_toArray, List.getElem_cons_zero, List.getElem_cons_succ] at g50 g51
        go_wp2
        clear hk0 hk1 hf3 cr5 g50 g51
        have hwg : w.heap.size < g8 := by omega
        have hw5 := L5.out.size
        have FBN := hiddenN FB.out.2
        have BEL : Hid (∀ U, But g8 W5 U → Below w.heap.size w U) := fun U hb => L5.out.trans (hb.below (by omega) hw5)
        have F8I := hiddenN (FB.out.1)
        go_loopg [12] rn (fun gk v12 wr => ∃ j : Nat, j ≤ rn ∧ gk = rn - j ∧ v12 = .int .i64 (j : Int) ∧ CapR Q0 wr (some ⟨g8, 0, none⟩) c8 (bumpsN F (zs.take j)) ∧ But g8 W5 wr)
        case atStart => exact ⟨0, Nat.zero_le _, rfl, rfl, C8'.out, But.of_below (Below.refl _ _)⟩
        case round =>
          clear C8'
          obtain ⟨j, hj, rfl, rfl, hC, hBt⟩ := hrel
          have HC := hiddenN hC
          have HBt := hiddenN hBt
          clear hC hBt
          have hLw := BEL.out _ HBt.out
          have g0 := (G5.out.keep (HBt.out.block _ G5.out.lt (by omega))).cell (k := 0) rfl
          simp only [List.getElem_toArray, List.getElem_cons_zero] at g0
          by_cases hjl : j < rn
          · have hji : (j : Int) < (rn : Int) := by omega
            have hjz : j < zs.length := by omega
            have crj := cr.out _ hLw
            rcases (AZ.out.below hLw).lies with e | ⟨zb, zo, ez, hcz⟩
            · rw [e] at hjz; simp at hjz
            have cz := hcz j hjz
            obtain ⟨vn, hvn, hvN, hvi⟩ := NDB.out _ (FBN.out j hjl)
            rw [hvn] at cz
            have hv0 : ¬ (vn : Int) < 0 := by omega
            have hv1 : ¬ (n.nodes ≤ (vn : Int)) := by omega
            have hbl : (bumpsN F (zs.take j)).length = Nn := by rw [bumps_len]; exact hTF.2
            rcases HC.out.at with e | ⟨tb, tof, et, cF⟩
            · rw [e] at hbl; simp at hbl; omega
            obtain ⟨rfl, rfl⟩ : g8 = tb ∧ 0 = tof := by simp at et; exact ⟨et.1, et.2⟩
            have c5 := cF vn (by omega)
            rw [Nat.zero_add] at c5
            have f5 := HC.out.fz vn
            have eN : bumpsN F (zs.take (j + 1)) = (bumpsN F (zs.take j)).set vn (wrap64 (nth (bumpsN F (zs.take j)) vn + 1)) := by
              rw [take_snoc hjz, bumps_snoc, hvn]
              unfold bumpF
              rw [Int.toNat_natCast]
            have N5 : Hid (CapR Q0 (wr.setCell ⟨g8, vn, none⟩ (.int .i64 (wrap64 (nth (bumpsN F (zs.take j)) vn + 1)))) (some ⟨g8, 0, none⟩) c8 (bumpsN F (zs.take (j + 1)))) := by
              show CapR _ _ _ _ _
              rw [eN]
              exact HC.out.setAt _
            have U5 := hiddenN (HBt.out.trans (But.set wr g8 vn (.int .i64 (wrap64 (nth (bumpsN F (zs.take j)) vn + 1)))))
            have hvl : vn < Nn := hvN
            subst ez
            have hwx := wrapN (nth (bumpsN F (zs.take j)) vn + 1)
            generalize nth (bumpsN F (zs.take j)) vn = x at *
            clear hcz cF et HC HBt hvn hbl eN
            go_wp2
            go_roundg (rn - (j + 1))
            case measure => omega
            case rel => exact ⟨j + 1, by omega, rfl, by go_num, N5.out, U5.out⟩
          · have ej : j = rn := by omega
            subst ej
            have hji : ¬ (j : Int) < (j : Int) := by omega
            have C8F := hiddenN (by rw [← F8I.out] at HC; exact HC.out : CapR Q0 wr (some ⟨g8, 0, none⟩) c8 F')
            have hs8 := HBt.out.size
            have A10 : At wr d10 F' := C10'.out.at.keep fun x hx => HBt.out.block _ (C10'.out.lt x hx).2 (by have := (C10'.out.lt x hx).1; omega)
            have A11 : At wr d11 T' := C11.out.at.keep fun x hx => HBt.out.block _ (C11.out.lt x hx).2 (by have := (C11.out.lt x hx).1; omega)
            have S6 : Hid (StE B E wr K n T' F') := S5.out.keep (fun k hk1 hk2 => HBt.out.block k (by have := S5.out.low.2; omega) (by omega)) hs8
            have G6 := hiddenN (G5.out.keep (HBt.out.block _ G5.out.lt (by omega)))
            have L6 := hiddenN hLw
            have EQF : Hid (∀ v, v < Nn → 0 ≤ nth F' v ∧ nth F' v ≤ 4194304) := fun v hv => by have := EQ1.out.fs v (by rw [HNN.out]; exact hv); omega
            have SM := hiddenN (sameN wr (some ⟨g8, 0, none⟩) d10 F' c8 c10 (by omega) C8F.out.at A10)
            rw [hTF'.2] at SM
            have P10 := hiddenN A10
            have P11 := hiddenN A11
            clear A10 A11 HC HBt C8F C10' C11 S5 G5 L5 BEL FBN F8I cr
            clear hLw g0
            obtain ⟨wa, hwa⟩ : ∃ wa, wr = wa := ⟨_, rfl⟩
            rw [hwa] at SM P10 P11 S6 G6 L6 ⊢
            clear hwa hs8
            go_upto_region 24 with (go_at_call 25; (with_reducible refine SM.out.mono ?_); rintro e W6 ⟨rfl, b6⟩; have Q10 := hiddenN (P10.out.below b6); have Q11 := hiddenN (P11.out.below b6); have S7 := hiddenN (S6.out.below b6); have G7 := hiddenN (G6.out.below b6); have L7 := hiddenN (L6.out.trans (b6.mono L6.out.size)); clear b6)
            clear SM P10 P11 S6 G6 L6
            go_wp2
            go_loopg [14] n.arcs.length (fun gk v14 wr => ∃ i : Nat, i ≤ n.arcs.length ∧ gk = n.arcs.length - i ∧ v14 = .int .i64 (i : Int) ∧ Below W6.heap.size W6 wr)
            case atStart => exact ⟨0, Nat.zero_le _, rfl, rfl, Below.refl _ _⟩
            case round =>
              obtain ⟨i, hi, rfl, rfl, hb7⟩ := hrel
              have B7 := hiddenN hb7
              clear hb7
              have hLw := L7.out.trans (B7.out.mono L7.out.size)
              have hmost := HSN.out.most
              by_cases hil : i < n.arcs.length
              · have hii : (i : Int) < (n.arcs.length : Int) := by omega
                have g1 := (G7.out.below B7.out).cell (k := 1) rfl
                simp only [List.getElem_toArray, List.getElem_cons_zero, List.getElem_cons_succ] at g1
                rcases (HA.out.below hLw).lies with e | ⟨ab, ao, ea, hca⟩
                · rw [e] at hil; simp at hil
                subst ea
                obtain ⟨a0, a1', a2, a3, a4⟩ := hca i hil
                have sa := HSN.out.arcs i hil
                have eqi := EQ1.out.eq i hil
                have fwi := EQ1.out.few.few i hil
                obtain ⟨fn, efn⟩ : ∃ k : Nat, (nthNa n.arcs i).f = (k : Int) := ⟨(nthNa n.arcs i).f.toNat, by have := sa.f; omega⟩
                obtain ⟨tn, etn⟩ : ∃ k : Nat, (nthNa n.arcs i).t = (k : Int) := ⟨(nthNa n.arcs i).t.toNat, by have := sa.t; omega⟩
                have hfn : fn < Nn := by have := sa.f; have := HNI.out; omega
                have htn : tn < Nn := by have := sa.t; have := HNI.out; omega
                rw [efn] at a0 eqi
                rw [etn] at a1' eqi
                rw [Int.toNat_natCast, Int.toNat_natCast] at eqi
                have ff := EQF.out fn hfn
                have ft := EQF.out tn htn
                have hk := sa.k
                have hg := sa.g
                have hs := sa.s
                generalize (nthNa n.arcs i).g = gg at *
                generalize (nthNa n.arcs i).k = kk at *
                generalize (nthNa n.arcs i).s = ss at *
                clear hca sa efn etn
                have R10 := hiddenN (fun (U : World) (hb : Below wr.heap.size wr U) => (Q10.out.below B7.out).below hb)
                have R11 := hiddenN (fun (U : World) (hb : Below wr.heap.size wr U) => (Q11.out.below B7.out).below hb)
                go_upto_region 28 with fail
                have bc := (Below.refl wr.heap.size wr).alloc (Nat.le_refl _) (.cells #[.int .i64 (fn : Int), .int .i64 (tn : Int), .int .i64 gg, .int .i64 kk, .int .i64 ss] 44)
                have XA := blkA_new 44 wr #[.int .i64 (fn : Int), .int .i64 (tn : Int), .int .i64 gg, .int .i64 kk, .int .i64 ss]
                have R10' := R10.out _ bc
                have R11' := R11.out _ bc
                have B8 := hiddenN (B7.out.trans (bc.mono B7.out.size))
                obtain ⟨xb, hxb⟩ : ∃ q, wr.heap.size = q := ⟨_, rfl⟩
                rw [hxb] at XA ⊢
                generalize wr.alloc (.cells #[.int .i64 (fn : Int), .int .i64 (tn : Int), .int .i64 gg, .int .i64 kk, .int .i64 ss] 44) = V1 at *
                clear bc a0 a1' a2 a3 a4 g1 R10 R11 hxb
                have x0 := XA.cell (k := 0) rfl
                have x1 := XA.cell (k := 1) rfl
                have x2 := XA.cell (k := 2) rfl
                have x3 := XA.cell (k := 3) rfl
                have x4 := XA.cell (k := 4) rfl
                simp only [List.getElem_toArray, List.getElem_cons_zero, List.getElem_cons_succ] at x0 x1 x2 x3 x4
                rcases R11' with e | ⟨b11, o11, e11, hc11⟩
                · rw [e] at hTF'; simp at hTF'; omega
                rcases R10' with e | ⟨b10, o10, e10, hc10⟩
                · rw [e] at hTF'; simp at hTF'; omega
                subst e11
                subst e10
                have cT := hc11 i (by omega)
                have cf := hc10 fn (by omega)
                have ct := hc10 tn (by omega)
                clear hc11 hc10 XA
                have hfnI : (fn : Int) < (Nn : Int) := by omega
                have htnI : (tn : Int) < (Nn : Int) := by omega
                generalize nth T' i = tx at *
                generalize nth F' fn = xf at *
                generalize nth F' tn = xt at *
                have p1 : 0 ≤ gg * xf ∧ gg * xf ≤ 64 * 4194304 := ⟨Int.mul_nonneg (by omega) (by omega), Int.mul_le_mul hg.2 (by omega) (by omega) (by omega)⟩
                have p2 : 0 ≤ kk * xt ∧ kk * xt ≤ 64 * 4194304 := ⟨Int.mul_nonneg (by omega) (by omega), Int.mul_le_mul hk.2 (by omega) (by omega) (by omega)⟩
                have w1 : IntKind.i64.wrap (gg * xf) = gg * xf := by rw [IntKind.wrap_i64]; omega
                have w2 : IntKind.i64.wrap (ss + gg * xf) = ss + gg * xf := by rw [IntKind.wrap_i64]; omega
                have w3 : IntKind.i64.wrap (kk * xt) = kk * xt := by rw [IntKind.wrap_i64]; omega
                have w4 : IntKind.i64.wrap (ss + gg * xf - kk * xt) = ss + gg * xf - kk * xt := by rw [IntKind.wrap_i64]; omega
                have hneg : ¬ tx < 0 := by omega
                have hbe : (tx != ss + gg * xf - kk * xt) = false := by rw [bne_eq_false_iff_eq]; exact eqi
                clear eqi fwi ff ft p1 p2 hk hg hs
                go_quiet (fail)
                go_wp2
                go_roundg (n.arcs.length - (i + 1))
                case measure => omega
                case rel => exact ⟨i + 1, by omega, rfl, by go_num, drewB B8.out _⟩
              · have ei : i = n.arcs.length := by omega
                have hii : ¬ (i : Int) < (n.arcs.length : Int) := by omega
                have EM : Hid (EqN n ((m + zs.length : Nat) : Int) T' F') := EQ1.out.more (by omega)
                go_wp2
                go_roundg (I.length - (q + 1))
                case measure => omega
                case rel => exact ⟨q + 1, T', F', m + zs.length, by omega, rfl, by go_num, S7.out.below B7.out, EM.out, hmt2, G7.out.below B7.out, hLw⟩
      · have ek : q = I.length := by omega
        have hki : ¬ (q : Int) < (I.length : Int) := by omega
        have LZ := HW
        go_wp2_with (go_at_call 14; (with_reducible refine (AW.out _).mono ?_); rintro e w9 ⟨rfl, b9⟩; have L9 := hiddenN (LZ.out.trans (b9.mono LZ.out.size)); clear b9)
        go_ret
        exact ⟨by first | rfl | simp, L9.out⟩
  · have NO : Hid (∀ U, Below w.heap.size w U → Calls Try.prog 12 #[.agg #[.int .i64 n.nodes, .slice a n.arcs.length c]] U fun e w' => e = .returned (.tuple #[.pointer none, .int .i64 (checkN n)]) ∧ Below U.heap.size U w') := fun U hb => new_no n a c w h hc0 U hb
    have hcb : (checkN n != 0) = true := by simpa using hc0
    generalize checkN n = cd at *
    clear h1 h
    go_enter Try.func6, Try.ntmps6
    go_upto_region 1 with fail
    generalize w.alloc (.cells #[.int .i64 n.nodes, .slice a n.arcs.length c] 24) = W0 at *
    go_wp2_with (first | (go_at_call 12; (with_reducible refine (NO.out _ B0.out).mono ?_); rintro e W1 ⟨rfl, b1⟩; have LZ := hiddenN (B0.out.trans (b1.mono B0.out.size)); clear b1) | (go_at_call 14; (with_reducible refine (AW.out _).mono ?_); rintro e w9 ⟨rfl, b9⟩; have L9 := hiddenN (LZ.out.trans (b9.mono LZ.out.size)); clear b9))
    go_ret
    exact ⟨by first | rfl | simp, L9.out⟩
end Go.Proofs.Ytancphohpedigaa
