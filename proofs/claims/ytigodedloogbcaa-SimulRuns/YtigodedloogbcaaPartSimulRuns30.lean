/- Texts of one chain, laid one behind the other. -/
import Derived.Test.YtigodedloogbcaaPartSimulRuns26
import Derived.Test.YtigodedloogbcaaPartSimulRuns29
import Derived.Test.YtigodedloogbcaaPartSimulRuns7
namespace Go.Proofs.Ytigodedloogbcaa
open Go.ChangeShapes Go.WideShapes Go.ChangeAt Go.RowKit
theorem row_cell {w : World} {a : Option Addr} {N : Nat} {f : Nat → Nat} (h : At w a (rowF N f)) {v : Nat} (hv : v < N) : ∃ b off, a = some ⟨b, off, none⟩ ∧ ∀ v, v < N → w.cell? ⟨b, off + v, none⟩ = some (.int .i64 (f v : Int)) := by
  rcases h with e | ⟨b, off, e, hc⟩
  · have := rowF_len N f
    rw [e] at this
    simp at this
    omega
  · refine ⟨b, off, e, fun u hu => ?_⟩
    have := hc u (by rw [rowF_len]; exact hu)
    rw [rowF_nth hu] at this
    exact this
theorem mul_small {g x : Int} (hg : 0 ≤ g ∧ g ≤ 64) (hx : 0 ≤ x ∧ x ≤ 4096) : 0 ≤ g * x ∧ g * x ≤ 262144 := ⟨Int.mul_nonneg hg.1 hx.1, Int.le_trans (Int.mul_le_mul hg.2 hx.2 hx.1 (by decide)) (by decide)⟩
set_option maxRecDepth 100000 in
set_option maxHeartbeats 8000000 in
theorem reven_any (f t g k N : Nat) (z : Value) (r : Nat → Nat) (ra : Option Addr) (rc : Nat) (w : World) (hg : g ≤ 64) (hk : k ≤ 64) (hf : f < N) (ht : t < N) (hrf : r f ≤ 4096) (hrt : r t ≤ 4096) (h : At w ra (rowF N r)) :
    Calls Try.prog 50 #[.agg #[.int .i64 (f : Int), .int .i64 (t : Int), .int .i64 (g : Int), .int .i64 (k : Int), z], .slice ra N rc] w fun e w' => e = .returned (.bool ((g : Int) * (r f : Int) == (k : Int) * (r t : Int))) ∧ Below w.heap.size w w' := by
  have b0 := (Below.refl w.heap.size w).alloc (Nat.le_refl _) (.cells #[.int .i64 (f : Int), .int .i64 (t : Int), .int .i64 (g : Int), .int .i64 (k : Int), z] 64)
  have X0 := blkA_new 64 w #[.int .i64 (f : Int), .int .i64 (t : Int), .int .i64 (g : Int), .int .i64 (k : Int), z]
  have B0 := hiddenN b0
  obtain ⟨rb, ro, er, hcr⟩ := row_cell (h.below b0) hf
  have r0 := hcr f hf
  have r1 := hcr t ht
  subst er
  have p1 := mul_small (g := (g : Int)) (x := (r f : Int)) ⟨by omega, by omega⟩ ⟨by omega, by omega⟩
  have p2 := mul_small (g := (k : Int)) (x := (r t : Int)) ⟨by omega, by omega⟩ ⟨by omega, by omega⟩
  have w1 : IntKind.i64.wrap ((g : Int) * (r f : Int)) = (g : Int) * (r f : Int) := by rw [IntKind.wrap_i64]; omega
  have w2 : IntKind.i64.wrap ((k : Int) * (r t : Int)) = (k : Int) * (r t : Int) := by rw [IntKind.wrap_i64]; omega
  have x0 := X0.cell (k := 0) rfl
  have x1 := X0.cell (k := 1) rfl
  have x2 := X0.cell (k := 2) rfl
  have x3 := X0.cell (k := 3) rfl
  simp only [List.getElem_toArray, List.getElem_cons_zero, List.getElem_cons_succ] at x0 x1 x2 x3
  have hfI : (f : Int) < (N : Int) := by omega
  have htI : (t : Int) < (N : Int) := by omega
  clear hcr b0 X0 h p1 p2 hrf hrt hg hk
  generalize ((r f : Nat) : Int) = rf at *
  generalize ((r t : Nat) : Int) = rt at *
  generalize ((g : Nat) : Int) = gi at *
  generalize ((k : Nat) : Int) = ki at *
  go_enter Try.func50, Try.ntmps50
  go_upto_region 1 with fail
  go_quiet (fail)
  go_wp2
  go_ret
  exact ⟨rfl, B0.out.trans ((drewF _ nq).mono B0.out.size)⟩
theorem even_odd {A : List NA} {r : Nat → Nat} {j : Nat} : ((gN A j : Int) * (r (fN A j) : Int) == (kN A j : Int) * (r (tN A j) : Int)) = !oddB A r j := by
  cases h : oddB A r j with
  | false =>
    have q := oddB_no.1 h
    unfold EvB at q
    show _ = true
    rw [beq_iff_eq, ← Int.natCast_mul, ← Int.natCast_mul, q]
  | true =>
    have q := oddB_yes.1 h
    unfold EvB at q
    show _ = false
    rw [beq_eq_false_iff_ne]
    intro e
    exact q (by rw [← Int.natCast_mul, ← Int.natCast_mul] at e; exact Int.ofNat_inj.1 e)
/-- Even of an arc of a sound net. -/
theorem reven_arc {A : List NA} {N j : Nat} (hS : SouB A N) (hj : j < A.length) (r : Nat → Nat) (hr : ∀ v, v < N → r v ≤ 4096) (ra : Option Addr) (rc : Nat) (w : World) (h : At w ra (rowF N r)) :
    Calls Try.prog 50 #[.agg #[.int .i64 (nthNa A j).f, .int .i64 (nthNa A j).t, .int .i64 (nthNa A j).g, .int .i64 (nthNa A j).k, .int .i64 (nthNa A j).s], .slice ra N rc] w fun e w' => e = .returned (.bool (!oddB A r j)) ∧ Below w.heap.size w w' := by
  obtain ⟨e1, e2, e3, e4, hf, ht, -, g2, -, k2⟩ := hS.ends j hj
  rw [e1, e2, e3, e4, ← even_odd]
  exact reven_any _ _ _ _ N _ r ra rc w g2 k2 hf ht (hr _ hf) (hr _ ht) h
set_option maxRecDepth 100000 in
set_option maxHeartbeats 16000000 in
theorem rholds_any (n : NN) (a : Option Addr) (c : Nat) (R : List Int) (r : Option Addr) (rc : Nat) (w : World) (h : AtN w a n.arcs) (hl : n.arcs.length ≤ 4611686018427387904) (hr : At w r R) (hR : R.length ≤ 4611686018427387904) :
    Calls Try.prog 29 #[.agg #[.int .i64 n.nodes, .slice a n.arcs.length c], .slice r R.length rc] w fun e w' => e = .returned (.tuple #[.bool (hoB n R), .int .i64 (hoE n R)]) ∧ Below w.heap.size w w' := by
  have b0 := (Below.refl w.heap.size w).alloc (Nat.le_refl _) (.cells #[.int .i64 n.nodes, .slice a n.arcs.length c] 24)
  have X0 := hiddenN (blkA_new 24 w #[.int .i64 n.nodes, .slice a n.arcs.length c])
  have B0 := hiddenN b0
  have HA := hiddenN (h.below b0)
  have HR := hiddenN (hr.below b0)
  have CH := hiddenN (rcheck10_any n a c _ (h.below b0) hl)
  clear b0 h hr
  have y0 := X0.out.cell (k := 0) rfl
  have y1 := X0.out.cell (k := 1) rfl
  simp only [List.getElem_toArray, List.getElem_cons_zero, List.getElem_cons_succ] at y0 y1
  obtain ⟨RE, hRE⟩ : ∃ Q, (fun (e : Ending) (w' : World) => e = .returned (.tuple #[.bool (hoB n R), .int .i64 (hoE n R)]) ∧ Below w.heap.size w w') = Q := ⟨_, rfl⟩
  rw [hRE]
  have HRE := hiddenN hRE
  clear hRE
  by_cases hc : checkN n = 0
  · have hS := check_sound hc
    have SB := hiddenN hS.souB
    have hN := hS.nodes
    have hM := hS.most
    rw [hc] at CH
    by_cases hle : (R.length : Int) = n.nodes
    · have VW := hiddenN (fun hw => ho_win hc hle hw)
      have VF := hiddenN (fun hw => ho_fu hc hle hw)
      obtain ⟨N, hNR⟩ : ∃ N, R.length = N := ⟨_, rfl⟩
      rw [hNR] at hle hR ⊢
      have HN := hiddenN hle
      have HNR := hiddenN hNR
      have SN : Hid (SouB n.arcs N) := by have q := SB.out; rw [show n.nodes.toNat = N by omega] at q; exact q
      rw [← hle] at CH X0 B0 HA HR y0 y1 ⊢
      clear hc hS hle hNR SB hN
      go_enter Try.func29, Try.ntmps29
      go_upto_region 1 with fail
      generalize w.alloc (.cells #[.int .i64 (N : Int), .slice a n.arcs.length c] 24) = W0 at *
      go_upto_region 6 with (go_at_call 49; (with_reducible refine CH.out.mono ?_); rintro e W1 ⟨rfl, b1⟩; have B1 := hiddenN b1; have N1 := hiddenN (X0.out.below b1); have L1 := hiddenN (B0.out.trans (b1.mono B0.out.size)); have y0 := N1.out.cell (k := 0) rfl; have y1 := N1.out.cell (k := 1) rfl; simp only [List.getElem_toArray, List.getElem_cons_zero, List.getElem_cons_succ] at y0 y1; clear b1)
      have H1 := hiddenN (HR.out.below B1.out)
      have A1 := hiddenN (HA.out.below B1.out)
      clear CH X0 HA HR B1 B0
      go_wp2
      go_loopg [7] N (fun gk u wr => ∃ v : Nat, v ≤ N ∧ gk = N - v ∧ u = .int .i64 (v : Int) ∧ W1 = wr ∧ winB (R.drop v) = winB R)
      case atStart => exact ⟨0, Nat.zero_le _, rfl, rfl, rfl, rfl⟩
      case round =>
        obtain ⟨v, hvN, rfl, rfl, eW, hwd⟩ := hrel
        subst eW
        have WD := hiddenN hwd
        clear hwd
        by_cases hlt : v < N
        · have hki : (v : Int) < (N : Int) := by omega
          rcases H1.out with e | ⟨rb, ro, er, hcr⟩
          · have := HNR.out
            rw [e] at this
            simp at this
            omega
          have r0 := hcr v (by rw [HNR.out]; exact hlt)
          have DR := hiddenN (drop_nth R v (by rw [HNR.out]; exact hlt))
          subst er
          clear hcr
          generalize nth R v = z at *
          by_cases h1 : z < 1
          · have HF : Hid (winB R = false) := by
              show _ = _
              rw [← WD.out, DR.out, winB, decide_eq_false (show ¬ 1 ≤ z by omega)]
              rfl
            have V := hiddenN (VW.out HF.out)
            go_wp2
            rw [← HRE.out]
            exact ⟨by rw [V.out.1, V.out.2] <;> rfl, L1.out⟩
          · by_cases h2 : 4096 < z
            · have HF : Hid (winB R = false) := by
                show _ = _
                rw [← WD.out, DR.out, winB, decide_eq_false (show ¬ z ≤ 4096 by omega), Bool.and_false]
                rfl
              have V := hiddenN (VW.out HF.out)
              go_wp2
              rw [← HRE.out]
              exact ⟨by rw [V.out.1, V.out.2] <;> rfl, L1.out⟩
            · have HD : Hid (winB (R.drop (v + 1)) = winB R) := by
                show _ = _
                rw [← WD.out, DR.out, winB, decide_eq_true (show 1 ≤ z by omega), decide_eq_true (show z ≤ 4096 by omega)]
                rfl
              go_wp2
              go_roundg (N - (v + 1))
              case measure => omega
              case rel => exact ⟨v + 1, by omega, rfl, by go_num, rfl, HD.out⟩
        · have hki : ¬ (v : Int) < (N : Int) := by omega
          have HW : Hid (winB R = true) := by
            show _ = _
            rw [← WD.out, List.drop_eq_nil_of_le (by rw [HNR.out]; omega)]
            rfl
          have V := hiddenN (VF.out HW.out)
          have RN : Hid (rowF N (natB R) = R) := by show _ = _; rw [← HNR.out]; exact row_nat HW.out
          have BD : Hid (∀ v, v < N → natB R v ≤ 4096) := fun v hv => by
            have := winB_iff.1 HW.out v (by rw [HNR.out]; exact hv)
            unfold natB
            omega
          have EV := hiddenN (fun (j : Nat) (hj : j < n.arcs.length) (U : World) (g : At U r (rowF N (natB R))) => reven_arc SN.out hj (natB R) BD.out r rc U g)
          rw [RN.out] at EV
          clear VW VF WD RN BD
          go_wp2
          go_loopg [8] n.arcs.length (fun gk u wr => ∃ j : Nat, j ≤ n.arcs.length ∧ gk = n.arcs.length - j ∧ u = .int .i64 (j : Int) ∧ Below W1.heap.size W1 wr ∧ ∀ i, i < j → EvB n.arcs (natB R) i)
          case atStart => exact ⟨0, Nat.zero_le _, rfl, rfl, Below.refl _ _, fun i hi => absurd hi (Nat.not_lt_zero _)⟩
          case round =>
            clear y0 y1
            obtain ⟨j, hjN, rfl, rfl, hBr, hI⟩ := hrel
            have BR := hiddenN hBr
            have HI := hiddenN hI
            clear hBr hI
            have y1 := (N1.out.below BR.out).cell (k := 1) rfl
            simp only [List.getElem_toArray, List.getElem_cons_zero, List.getElem_cons_succ] at y1
            by_cases hjl : j < n.arcs.length
            · have hji : (j : Int) < (n.arcs.length : Int) := by omega
              rcases A1.out.below BR.out with e | ⟨nb, no, en, hcn⟩
              · rw [e] at hjl; exact absurd hjl (Nat.not_lt_zero _)
              obtain ⟨a0, a1, a2, a3, a4⟩ := hcn j hjl
              subst en
              have EJ := hiddenN (EV.out j hjl wr (H1.out.below BR.out))
              clear hcn EV
              cases ho : oddB n.arcs (natB R) j with
              | true =>
                have HF : Hid (fuB n.arcs (natB R) = some j) := fuB_hit hjl (oddB_yes.1 ho) HI.out
                rw [ho] at EJ
                clear ho
                generalize nthNa n.arcs j = x at *
                go_wp2_with (go_at_call 50; (with_reducible refine EJ.out.mono ?_); rintro e W3 ⟨rfl, b3⟩; have L3 := hiddenN (L1.out.trans ((BR.out.trans (b3.mono BR.out.size)).mono L1.out.size)); clear b3)
                rw [← HRE.out]
                exact ⟨by rw [V.out.1, V.out.2, HF.out] <;> rfl, L3.out⟩
              | false =>
                have HX : Hid (∀ i, i < j + 1 → EvB n.arcs (natB R) i) := fun i hi => by
                  by_cases e : i = j
                  · rw [e]; exact oddB_no.1 ho
                  · exact HI.out i (by omega)
                rw [ho] at EJ
                clear ho HI
                generalize nthNa n.arcs j = x at *
                go_wp2_with (go_at_call 50; (with_reducible refine EJ.out.mono ?_); rintro e W3 ⟨rfl, b3⟩; have B3 := hiddenN (BR.out.trans (b3.mono BR.out.size)); clear b3)
                go_roundg (n.arcs.length - (j + 1))
                case measure => omega
                case rel => exact ⟨j + 1, by omega, rfl, by go_num, B3.out, HX.out⟩
            · have hji : ¬ (j : Int) < (n.arcs.length : Int) := by omega
              have HF : Hid (fuB n.arcs (natB R) = none) := fuB_none fun i hi => HI.out i (by omega)
              go_wp2
              rw [← HRE.out]
              exact ⟨by rw [V.out.1, V.out.2, HF.out] <;> rfl, L1.out.trans (BR.out.mono L1.out.size)⟩
    · have hlb : ((R.length : Int) != n.nodes) = true := by simpa using hle
      have V := hiddenN (ho_len hc hle)
      clear hc hS hle
      go_enter Try.func29, Try.ntmps29
      go_upto_region 1 with fail
      generalize w.alloc (.cells #[.int .i64 n.nodes, .slice a n.arcs.length c] 24) = W0 at *
      go_wp2_with (go_at_call 49; (with_reducible refine CH.out.mono ?_); rintro e W1 ⟨rfl, b1⟩; have B1 := hiddenN b1; have N1 := hiddenN (X0.out.below b1); have L1 := hiddenN (B0.out.trans (b1.mono B0.out.size)); have y0 := N1.out.cell (k := 0) rfl; have y1 := N1.out.cell (k := 1) rfl; simp only [List.getElem_toArray, List.getElem_cons_zero, List.getElem_cons_succ] at y0 y1; clear b1)
      rw [← HRE.out]
      exact ⟨by rw [V.out.1, V.out.2] <;> rfl, L1.out⟩
  · have V := hiddenN (ho_bad (R := R) hc)
    have hcb : (checkN n != 0) = true := by simpa using hc
    clear hc
    generalize checkN n = cd at *
    go_enter Try.func29, Try.ntmps29
    go_upto_region 1 with fail
    generalize w.alloc (.cells #[.int .i64 n.nodes, .slice a n.arcs.length c] 24) = W0 at *
    go_wp2_with (go_at_call 49; (with_reducible refine CH.out.mono ?_); rintro e W1 ⟨rfl, b1⟩; have L1 := hiddenN (B0.out.trans (b1.mono B0.out.size)); clear b1)
    rw [← HRE.out]
    exact ⟨by rw [V.out.1, V.out.2] <;> rfl, L1.out⟩
end Go.Proofs.Ytigodedloogbcaa
