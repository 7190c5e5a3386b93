/- Texts of one chain, laid one behind the other. -/
import Derived.Test.YtecmkienoofccaaPartBalanceSolves26
import Derived.Test.YtecmkienoofccaaPartBalanceSolves28
import Derived.Test.YtecmkienoofccaaPartBalanceSolves27
import Derived.Test.YtecmkienoofccaaPartBalanceSolves11
import Derived.Test.YtecmkienoofccaaPartBalanceSolves22
import Derived.Test.YtecmkienoofccaaPartBalanceSolves21
namespace Go.Proofs.Ytecmkienoofccaa
open Go.ChangeShapes Go.WideShapes Go.ChangeAt Go.RowKit
theorem SoundN.taken {n : NN} (h : SoundN n) {x : Int × Bool} (hx : inW n.arcs x = true) : (1 ≤ (tkW n.arcs x).g ∧ (tkW n.arcs x).g ≤ 64) ∧ (1 ≤ (tkW n.arcs x).k ∧ (tkW n.arcs x).k ≤ 64) ∧ (0 ≤ stW n.arcs x ∧ stW n.arcs x < n.nodes) ∧ (0 ≤ enW n.arcs x ∧ enW n.arcs x < n.nodes) := by
  obtain ⟨h1, h2⟩ := inW_iff.1 hx
  have hs := h.arcs x.1.toNat (by omega)
  unfold stW enW tkW
  split
  · exact ⟨hs.k, hs.g, hs.t, hs.f⟩
  · exact ⟨hs.g, hs.k, hs.f, hs.t⟩
theorem row_cell {w : World} {a : Option Addr} {N : Nat} {f : Nat → Nat} (h : At w a (rowF N f)) {v : Nat} (hv : v < N) : ∃ b off, a = some ⟨b, off, none⟩ ∧ ∀ v, v < N → w.cell? ⟨b, off + v, none⟩ = some (.int .i64 (f v : Int)) := by
  rcases h with e | ⟨b, off, e, hc⟩
  · have := rowF_len N f
    rw [e] at this
    simp at this
    omega
  · refine ⟨b, off, e, fun u hu => ?_⟩
    have := hc u (by rw [rowF_len]; exact hu)
    rw [rowF_nth hu] at this
    exact this
theorem mul_small {g x : Int} (hg : 0 ≤ g ∧ g ≤ 64) (hx : 0 ≤ x ∧ x ≤ 4096) : 0 ≤ g * x ∧ g * x ≤ 262144 := ⟨Int.mul_nonneg hg.1 hx.1, Int.le_trans (Int.mul_le_mul hg.2 hx.2 hx.1 (by decide)) (by decide)⟩
set_option maxRecDepth 100000 in
set_option maxHeartbeats 8000000 in
theorem reven_any (f t g k N : Nat) (z : Value) (r : Nat → Nat) (ra : Option Addr) (rc : Nat) (w : World) (hg : g ≤ 64) (hk : k ≤ 64) (hf : f < N) (ht : t < N) (hrf : r f ≤ 4096) (hrt : r t ≤ 4096) (h : At w ra (rowF N r)) :
    Calls Try.prog 23 #[.agg #[.int .i64 (f : Int), .int .i64 (t : Int), .int .i64 (g : Int), .int .i64 (k : Int), z], .slice ra N rc] w fun e w' => e = .returned (.bool ((g : Int) * (r f : Int) == (k : Int) * (r t : Int))) ∧ Below w.heap.size w w' := by
  have b0 := (Below.refl w.heap.size w).alloc (Nat.le_refl _) (.cells #[.int .i64 (f : Int), .int .i64 (t : Int), .int .i64 (g : Int), .int .i64 (k : Int), z] 52)
  have X0 := blkA_new 52 w #[.int .i64 (f : Int), .int .i64 (t : Int), .int .i64 (g : Int), .int .i64 (k : Int), z]
  have B0 := hiddenN b0
  obtain ⟨rb, ro, er, hcr⟩ := row_cell (h.below b0) hf
  have r0 := hcr f hf
  have r1 := hcr t ht
  subst er
  have p1 := mul_small (g := (g : Int)) (x := (r f : Int)) ⟨by omega, by omega⟩ ⟨by omega, by omega⟩
  have p2 := mul_small (g := (k : Int)) (x := (r t : Int)) ⟨by omega, by omega⟩ ⟨by omega, by omega⟩
  have w1 : IntKind.i64.wrap ((g : Int) * (r f : Int)) = (g : Int) * (r f : Int) := by rw [IntKind.wrap_i64]; omega
  have w2 : IntKind.i64.wrap ((k : Int) * (r t : Int)) = (k : Int) * (r t : Int) := by rw [IntKind.wrap_i64]; omega
  have x0 := X0.cell (k := 0) rfl
  have x1 := X0.cell (k := 1) rfl
  have x2 := X0.cell (k := 2) rfl
  have x3 := X0.cell (k := 3) rfl
  simp only [List.getElem_toArray, List.getElem_cons_zero, List.getElem_cons_succ] at x0 x1 x2 x3
  have hfI : (f : Int) < (N : Int) := by omega
  have htI : (t : Int) < (N : Int) := by omega
  clear hcr b0 X0 h p1 p2 hrf hrt hg hk
  generalize ((r f : Nat) : Int) = rf at *
  generalize ((r t : Nat) : Int) = rt at *
  generalize ((g : Nat) : Int) = gi at *
  generalize ((k : Nat) : Int) = ki at *
  go_enter Try.func23, Try.ntmps23
  go_upto_region 1 with fail
  go_quiet (fail)
  go_wp2
  go_ret
  exact ⟨rfl, B0.out.trans ((drewF _ nq).mono B0.out.size)⟩
theorem even_odd {A : List NA} {r : Nat → Nat} {j : Nat} : ((gN A j : Int) * (r (fN A j) : Int) == (kN A j : Int) * (r (tN A j) : Int)) = !oddB A r j := by
  cases h : oddB A r j with
  | false =>
    have q := oddB_no.1 h
    unfold EvB at q
    show _ = true
    rw [beq_iff_eq, ← Int.natCast_mul, ← Int.natCast_mul, q]
  | true =>
    have q := oddB_yes.1 h
    unfold EvB at q
    show _ = false
    rw [beq_eq_false_iff_ne]
    intro e
    exact q (by rw [← Int.natCast_mul, ← Int.natCast_mul] at e; exact Int.ofNat_inj.1 e)
/-- Even of an arc of a sound net. -/
theorem reven_arc {A : List NA} {N j : Nat} (hS : SouB A N) (hj : j < A.length) (r : Nat → Nat) (hr : ∀ v, v < N → r v ≤ 4096) (ra : Option Addr) (rc : Nat) (w : World) (h : At w ra (rowF N r)) :
    Calls Try.prog 23 #[.agg #[.int .i64 (nthNa A j).f, .int .i64 (nthNa A j).t, .int .i64 (nthNa A j).g, .int .i64 (nthNa A j).k, .int .i64 (nthNa A j).s], .slice ra N rc] w fun e w' => e = .returned (.bool (!oddB A r j)) ∧ Below w.heap.size w w' := by
  obtain ⟨e1, e2, e3, e4, hf, ht, -, g2, -, k2⟩ := hS.ends j hj
  rw [e1, e2, e3, e4, ← even_odd]
  exact reven_any _ _ _ _ N _ r ra rc w g2 k2 hf ht (hr _ hf) (hr _ ht) h
def PatV (B : Nat) (P : List (Nat × Bool)) (pe : Int) (u : World) (v : Value) : Prop := ∃ d c, v = .tuple #[.slice d P.length c, .int .i64 pe] ∧ CapS B u d c P
def SliV (B : Nat) (P : List (Nat × Bool)) (u : World) (v : Value) : Prop := ∃ d c, v = .slice d P.length c ∧ CapS B u d c P
theorem PatV.later {B : Nat} {P : List (Nat × Bool)} {pe : Int} {u u' : World} {v : Value} (h : PatV B P pe u v) (hb : Below u.heap.size u u') : PatV B P pe u' v := by
  obtain ⟨d, c, e, q⟩ := h
  exact ⟨d, c, e, q.later hb⟩
theorem SliV.later {B : Nat} {P : List (Nat × Bool)} {u u' : World} {v : Value} (h : SliV B P u v) (hb : Below u.heap.size u u') : SliV B P u' v := by
  obtain ⟨d, c, e, q⟩ := h
  exact ⟨d, c, e, q.later hb⟩
set_option maxRecDepth 100000 in
set_option maxHeartbeats 32000000 in
theorem rsolve_any (n : NN) (a : Option Addr) (c : Nat) (w : World) (h : AtN w a n.arcs) (hl : n.arcs.length ≤ 4611686018427387904) : Calls Try.prog 14 #[.agg #[.int .i64 n.nodes, .slice a n.arcs.length c]] w (SolE n w) := by
  have b0 := (Below.refl w.heap.size w).alloc (Nat.le_refl _) (.cells #[.int .i64 n.nodes, .slice a n.arcs.length c] 24)
  have b1 := (Below.refl (w.alloc (.cells #[.int .i64 n.nodes, .slice a n.arcs.length c] 24)).heap.size (w.alloc (.cells #[.int .i64 n.nodes, .slice a n.arcs.length c] 24))).alloc (Nat.le_refl _) (.cells #[.int .u8 0, .slice none 0 0, .slice none 0 0] 37)
  have hs0 : (w.alloc (.cells #[.int .i64 n.nodes, .slice a n.arcs.length c] 24)).heap.size = w.heap.size + 1 := World.size_alloc _ _
  have b2 := b0.trans (b1.mono b0.size)
  have XN := hiddenN ((blkA_new 24 w #[.int .i64 n.nodes, .slice a n.arcs.length c]).below b1)
  have XB := hiddenN (blkA_new 37 (w.alloc (.cells #[.int .i64 n.nodes, .slice a n.arcs.length c] 24)) #[.int .u8 0, .slice none 0 0, .slice none 0 0])
  rw [hs0] at XB
  have L0 := hiddenN b2
  have HA := hiddenN (h.below b2)
  have OF := hiddenN (rofF_any n a c _ (h.below b2) hl)
  unfold OfFE at OF
  clear b0 b1 b2 hs0 h
  obtain ⟨RE, hRE⟩ : ∃ R, SolE n w = R := ⟨_, rfl⟩
  rw [hRE]
  have HRE := hiddenN hRE
  clear hRE
  obtain ⟨nb, hnb⟩ : ∃ q, w.heap.size = q := ⟨_, rfl⟩
  have HNB := hiddenN hnb
  by_cases hc : checkN n = 0
  · simp only [if_pos hc] at OF
    have hS := check_sound hc
    have SB := hiddenN hS.souB
    have hN := hS.nodes
    have hM := hS.most
    have CK := hiddenN hc
    have V3 := hiddenN (fun hb => sol_big hc hb)
    have V2 := hiddenN (fun i hb hf => sol_odd (i := i) hc hb hf)
    have V1 := hiddenN (fun hb hf => sol_even hc hb hf)
    clear hS hc
    have hN1 : n.nodes.toNat ≤ 1000 := by omega
    have hM1 : n.arcs.length ≤ 1000 := by omega
    have PTH := hiddenN (fun (i : Nat) (U : World) (hU : AtN U a n.arcs) => rpath_any n a c (nthNa n.arcs i).t (nthNa n.arcs i).f U hU hl)
    have FC := hiddenN (fun (U : World) (d1 d2 : Option Addr) (c1 c2 : Nat) (g1 : AtN U a n.arcs) (g2 : At U d1 (intsF (treF n.arcs n.arcs.length))) => rcounts_any (aa := a) (ac := c) (ta := d1) (tc := c1) (ha := d2) (hac := c2) SB.out hN1 hM1 U g1 g2)
    unfold FcE at FC
    have EV := hiddenN (fun (j : Nat) (hj : j < n.arcs.length) (U : World) (r : Option Addr) (rc : Nat) (hb : ∀ v, v < n.nodes.toNat → cnt n v ≤ 4096) (g3 : At U r (rowF n.nodes.toNat (cnt n))) => reven_arc SB.out hj (cnt n) hb r rc U g3)
    have EB : Hid (bigN (cntB n.arcs n.arcs.length) n.nodes.toNat = bigA n) := rfl
    have ER : Hid (rowF n.nodes.toNat (cntB n.arcs n.arcs.length) = rowF n.nodes.toNat (cnt n)) := rfl
    rw [EB.out, ER.out] at FC
    obtain ⟨N, hNN⟩ : ∃ N : Nat, n.nodes = (N : Int) := ⟨n.nodes.toNat, by omega⟩
    have eN : n.nodes.toNat = N := by omega
    rw [eN] at FC EV OF V1
    have NN0 := hiddenN hNN
    rw [hnb] at XN XB L0
    have GOAL : Hid (∀ (v : Int) (d1 : Option Addr) (n1 c1 : Nat) (d2 : Option Addr) (n2 c2 : Nat) (W : World), vdB n = v → n1 = (rpB n).length → n2 = (cyB n).length → CapR nb W d1 c1 (rpB n) → CapS nb W d2 c2 (cyB n) → Below nb w W → RE (.returned (.tuple #[.agg #[.int .u8 v, .slice d1 n1 c1, .slice d2 n2 c2], .int .i64 0])) W) := fun v d1 n1 c1 d2 n2 c2 W e1 e2 e3 g1 g2 g3 => by
      rw [← HRE.out]
      subst e1
      subst e2
      subst e3
      refine ⟨d1, c1, d2, c2, by rw [CK.out], ?_, ?_, ?_⟩
      · rw [HNB.out]; exact g1
      · rw [HNB.out]; exact g2
      · rw [HNB.out]; exact g3
    clear HRE eN hnb hNN
    go_enter Try.func14, Try.ntmps14
    go_upto_region 1 with fail
    generalize (w.alloc (.cells #[.int .i64 n.nodes, .slice a n.arcs.length c] 24)).alloc (.cells #[.int .u8 0, .slice none 0 0, .slice none 0 0] 37) = W0 at *
    rw [HNB.out]
    have y0 := XN.out.cell (k := 0) rfl
    have y1 := XN.out.cell (k := 1) rfl
    simp only [List.getElem_toArray, List.getElem_cons_zero, List.getElem_cons_succ] at y0 y1
    go_upto_region 2 with (go_at_call 28; (with_reducible refine OF.out.mono ?_); rintro e W1 ⟨d1, c1, d2, c2, rfl, q1, q2, -, b1⟩; have T1 := hiddenN q1.at; have H1 := hiddenN q2.at; have B1 := hiddenN b1; clear q1 q2 b1)
    have L1 := hiddenN (L0.out.trans (B1.out.mono (by have := L0.out.size; have := HNB.out; omega)))
    have N1 := hiddenN (XN.out.below B1.out)
    have Y1 := hiddenN (XB.out.below B1.out)
    have A1 := hiddenN (HA.out.below B1.out)
    clear OF XN XB L0 HA B1 y0 y1
    have hnb1 : nb ≤ W1.heap.size := by have := L1.out.size; have := HNB.out; omega
    have b2 := (Below.refl W1.heap.size W1).alloc (Nat.le_refl _) (.cells #[.slice d1 (intsF (treF n.arcs n.arcs.length)).length c1, .slice d2 (rowF N (homF n.arcs n.arcs.length)).length c2] 57)
    have F2 := hiddenN (blkA_new 57 W1 #[.slice d1 (intsF (treF n.arcs n.arcs.length)).length c1, .slice d2 (rowF N (homF n.arcs n.arcs.length)).length c2])
    have L2 := hiddenN (L1.out.trans (b2.mono hnb1))
    have N2 := hiddenN (N1.out.below b2)
    have Y2 := hiddenN (Y1.out.below b2)
    have A2 := hiddenN (A1.out.below b2)
    have T2 := hiddenN (T1.out.below b2)
    obtain ⟨fb, hfb⟩ : ∃ q, W1.heap.size = q := ⟨_, rfl⟩
    rw [hfb] at F2 ⊢
    rw [intsF_len, rowF_len] at F2 ⊢
    rw [intsF_len, rowF_len] at L2 N2 Y2 A2 T2
    clear b2 hfb T1 H1 N1 Y1 A1 L1 hnb1
    generalize W1.alloc (.cells #[.slice d1 (treF n.arcs n.arcs.length).length c1, .slice d2 N c2] 57) = W2 at *
    have hnb2 : nb ≤ W2.heap.size := by have := L2.out.size; have := HNB.out; omega
    have CL := hiddenN (FC.out W2 d1 d2 c1 c2 A2.out T2.out)
    have y0 := N2.out.cell (k := 0) rfl
    have y1 := N2.out.cell (k := 1) rfl
    have z0 := F2.out.cell (k := 0) rfl
    have z1 := F2.out.cell (k := 1) rfl
    simp only [List.getElem_toArray, List.getElem_cons_zero, List.getElem_cons_succ] at y0 y1 z0 z1
    rw [NN0.out] at y0 ⊢
    clear FC
    go_upto_region 5 with (go_at_call 29; (with_reducible refine CL.out.mono ?_); rintro e W3 ⟨d3, n3, c3, rfl, b3, h3⟩; have B3 := hiddenN b3; have H3 := hiddenN h3; clear b3 h3)
    have L3 := hiddenN (L2.out.trans (B3.out.mono hnb2))
    have N3 := hiddenN (N2.out.below B3.out)
    have Y3 := hiddenN (Y2.out.below B3.out)
    have A3 := hiddenN (A2.out.below B3.out)
    have Y2L : Hid (nb + 1 < W2.heap.size) := Y2.out.lt
    clear CL y0 y1 z0 z1 T2 F2 N2 Y2 A2
    have hnb3 : nb ≤ W3.heap.size := by have := L3.out.size; have := HNB.out; omega
    cases hb : bigA n with
    | true =>
      have V := hiddenN (V3.out hb)
      have z0 := Y3.out.cell (k := 0) rfl
      have z1 := Y3.out.cell (k := 1) rfl
      have z2 := Y3.out.cell (k := 2) rfl
      simp only [List.getElem_toArray, List.getElem_cons_zero, List.getElem_cons_succ] at z0 z1 z2
      have f0 := Y3.out.frozen 0
      have f1 := Y3.out.frozen 1
      have f2 := Y3.out.frozen 2
      clear hb V1 V2 V3 PTH EV H3 EB ER
      go_wp2
      refine bodyPost_ret (v := .tuple #[.agg #[.int .u8 3, .slice none 0 0, .slice none 0 0], .int .i64 0]) (by simp [results, Try.results14, go_sem, z0, z1, z2]) rfl ?_
      exact GOAL.out 3 none 0 0 none 0 0 _ V.out.1 (by rw [V.out.2.1]; rfl) (by rw [V.out.2.2]; rfl) (by rw [V.out.2.1]; exact CapR.nil _ _) (by rw [V.out.2.2]; exact CapS.nil _ _) (((L3.out.setCell (by show nb ≤ nb + 1; omega) _).setCell (by show nb ≤ nb + 1; omega) _).setCell (by show nb ≤ nb + 1; omega) _)
    | false =>
      obtain ⟨rfl, r3⟩ := H3.out hb
      have hY2 := Y2L.out
      have R3N : Hid (∀ x, d3 = some x → x.block ≠ nb + 1) := fun x hx => by have := (r3.lt x hx).1; omega
      have R3 := hiddenN (r3.mono hnb2)
      have BU := hiddenN (bigN_no.1 (show bigN (cnt n) n.nodes.toNat = false from hb))
      have BV : Hid (∀ v, v < n3 → cnt n v ≤ 4096) := fun v hv => BU.out v (by have := NN0.out; omega)
      have HB := hiddenN hb
      clear H3 r3 hb V3 EB ER BU
      have y1 := N3.out.cell (k := 1) rfl
      simp only [List.getElem_toArray, List.getElem_cons_zero, List.getElem_cons_succ] at y1
      go_wp2
      go_loopg [8] n.arcs.length (fun gk u wr => ∃ ix : Nat, ix ≤ n.arcs.length ∧ gk = n.arcs.length - ix ∧ u = .int .i64 (ix : Int) ∧ Below W3.heap.size W3 wr ∧ ∀ i, i < ix → EvB n.arcs (cnt n) i)
      case atStart => exact ⟨0, Nat.zero_le _, rfl, rfl, Below.refl _ _, fun i hi => absurd hi (Nat.not_lt_zero _)⟩
      case round =>
        clear y1
        obtain ⟨ix, hixN, rfl, rfl, hBr, hI⟩ := hrel
        have BR := hiddenN hBr
        have HI := hiddenN hI
        clear hBr hI
        have y0 := (N3.out.below BR.out).cell (k := 0) rfl
        have y1 := (N3.out.below BR.out).cell (k := 1) rfl
        simp only [List.getElem_toArray, List.getElem_cons_zero, List.getElem_cons_succ] at y0 y1
        rw [NN0.out] at y0
        by_cases hiL0 : ix < n.arcs.length
        · have hji : (ix : Int) < (n.arcs.length : Int) := by omega
          have A4 := hiddenN (A3.out.below BR.out)
          rcases A4.out with e | ⟨ab, aof, en, hcn⟩
          · rw [e] at hiL0; exact absurd hiL0 (Nat.not_lt_zero _)
          obtain ⟨a0, a1, a2, a3, a4⟩ := hcn ix hiL0
          have EJ := hiddenN (EV.out ix hiL0 wr d3 c3 BV.out (R3.out.at.below BR.out))
          clear hcn EV
          cases ho : oddB n.arcs (cnt n) ix with
          | false =>
            have HX : Hid (∀ i, i < ix + 1 → EvB n.arcs (cnt n) i) := fun i hi => by
              by_cases e : i = ix
              · rw [e]; exact oddB_no.1 ho
              · exact HI.out i (by omega)
            rw [ho] at EJ
            subst en
            clear ho HI
            generalize nthNa n.arcs ix = x at *
            go_wp2_with (go_at_call 23; (with_reducible refine EJ.out.mono ?_); rintro e W4 ⟨rfl, b4⟩; have B4 := hiddenN (BR.out.trans (b4.mono BR.out.size)); clear b4)
            go_roundg (n.arcs.length - (ix + 1))
            case measure => omega
            case rel => exact ⟨ix + 1, by omega, rfl, by go_num, B4.out, HX.out⟩
          | true =>
            have HF : Hid (fuB n.arcs (cnt n) = some ix) := fuB_hit hiL0 (oddB_yes.1 ho) HI.out
            have V := hiddenN (V2.out ix HB.out HF.out)
            rw [ho] at EJ
            have CE : Hid (cyB n = [(ix, false)] ++ (pathP n (nthNa n.arcs ix).t (nthNa n.arcs ix).f).1) := by show _ = _; rw [V.out.2.2]; rfl
            have PL := pathP_len n (nthNa n.arcs ix).t (nthNa n.arcs ix).f
            have PA := hiddenN (PTH.out ix)
            unfold PatE at PA
            rw [NN0.out] at PA
            subst en
            clear ho HI V1 V2 PTH A4
            obtain ⟨AL, hAL⟩ : ∃ q, n.arcs.length = q := ⟨_, rfl⟩
            have HAL := hiddenN hAL
            rw [hAL] at PA y1 hji hiL0 ⊢
            clear hAL hl hM hM1 hixN
            generalize (pathP n (nthNa n.arcs ix).t (nthNa n.arcs ix).f).1 = P at *
            generalize (pathP n (nthNa n.arcs ix).t (nthNa n.arcs ix).f).2 = pe at *
            go_upto_region 11 with (go_at_call 23; (with_reducible refine EJ.out.mono ?_); rintro e W4 ⟨rfl, b4⟩; have B4 := hiddenN b4; clear b4)
            replace y0 := cellN_later B4.out y0
            replace y1 := cellN_later B4.out y1
            replace a0 := cellN_later B4.out a0
            replace a1 := cellN_later B4.out a1
            have J4 := hiddenN (BR.out.trans (B4.out.mono BR.out.size))
            have L4 := hiddenN (L3.out.trans (J4.out.mono hnb3))
            have Y4 := hiddenN (Y3.out.below J4.out)
            have AX := hiddenN (A3.out.below J4.out)
            clear A3
            have A3 := AX
            have hnw : nb ≤ W4.heap.size := Nat.le_trans hnb3 J4.out.size
            clear EJ BR B4 J4 L3 N3 Y3 R3 AX a2 a3 a4 BV
            obtain ⟨zt, hzt⟩ : ∃ q, (nthNa n.arcs ix).t = q := ⟨_, rfl⟩
            obtain ⟨zf, hzf⟩ : ∃ q, (nthNa n.arcs ix).f = q := ⟨_, rfl⟩
            rw [hzt] at a1 PA
            rw [hzf] at a0 PA
            have hiL : ix < AL := hiL0
            clear hzt hzf
            refine wp_region_gen [] (fun d_ i u_ z_ => match i with
                | 0 => z_ = .agg #[.int .i64 (n3 : Int), .slice (some ⟨ab, aof, none⟩) AL c]
                | 1 => z_ = .pointer (some ⟨nb, 1, none⟩)
                | 2 => z_ = .slice (some ⟨ab, aof, none⟩) AL c
                | 3 => z_ = .int .i64 (ix : Int)
                | 4 => z_ = .pointer (some ⟨ab, aof + ix * 5, none⟩)
                | 5 => z_ = .pointer (some ⟨ab, aof + ix * 5 + 1, none⟩)
                | 6 => z_ = .int .i64 zt
                | 7 => z_ = .pointer (some ⟨nb, 1, none⟩)
                | 8 => z_ = .slice (some ⟨ab, aof, none⟩) AL c
                | 9 => z_ = .int .i64 (ix : Int)
                | 10 => z_ = .pointer (some ⟨ab, aof + ix * 5, none⟩)
                | 11 => z_ = .pointer (some ⟨ab, aof + ix * 5, none⟩)
                | 12 => z_ = .int .i64 zf
                | 13 => PatV nb P pe u_ z_
                | 14 => PatV nb P pe u_ z_
                | 15 => SliV nb P u_ z_
                | 16 => z_ = .int .i64 pe
                | 17 => SliV nb P u_ z_
                | 18 => z_ = .int .i64 pe
                | _ => True) (fun d_ u_ => Below W4.heap.size W4 u_) (by kernel_rfl) (by kernel_rfl) (by kernel_rfl) ?_ ?_ ?_ ?_ ?_ ?_ (by kernel_rfl)
            · intro d_ i w_ v_ w' h hb
              match i, h with
              | 0, h => exact h
              | 1, h => exact h
              | 2, h => exact h
              | 3, h => exact h
              | 4, h => exact h
              | 5, h => exact h
              | 6, h => exact h
              | 7, h => exact h
              | 8, h => exact h
              | 9, h => exact h
              | 10, h => exact h
              | 11, h => exact h
              | 12, h => exact h
              | 13, h => exact PatV.later h hb
              | 14, h => exact PatV.later h hb
              | 15, h => exact SliV.later h hb
              | 16, h => exact h
              | 17, h => exact SliV.later h hb
              | 18, h => exact h
              | _ + 19, _ => trivial
            · intro d_ u_ u' h hb
              exact h.trans (hb.mono h.size)
            · exact Below.refl _ _
            · intro d_ i o ρ w' hm ho hf hg hC hcs hfs hfr hdep
              match i, hm, ho, hf, hg, hfr, hdep with
              | 0, _, ho, hf, hg, hfr, hdep =>
                simp only [gTA, gCZ, gSI] at ho
                subst ho
                refine ⟨fun _ => ?_, fun hw => absurd (show true = false from hw) (by decide)⟩
                have ts : ρ (.tmp 1) = .pointer (some ⟨nb, 0, none⟩) := hfr 1 (by kernel_rfl)
                have k0 := cellN_later hC y0
                have k1 := cellN_later hC y1
                simp [go_sem, ts, k0, k1]
                exact ⟨Below.refl _ _, rfl⟩
              | 1, _, ho, hf, hg, hfr, hdep =>
                simp only [gTA, gCZ, gCS, gSI] at ho
                subst ho
                refine ⟨fun _ => ?_, fun hw => absurd (show true = false from hw) (by decide)⟩
                have ts : ρ (.tmp 1) = .pointer (some ⟨nb, 0, none⟩) := hfr 1 (by kernel_rfl)
                simp [go_sem, ts]
                exact ⟨Below.refl _ _, rfl⟩
              | 2, _, ho, hf, hg, hfr, hdep =>
                simp only [gTA, gCZ, gCS, gSI] at ho
                subst ho
                refine ⟨fun _ => ?_, fun hw => absurd (show true = false from hw) (by decide)⟩
                have kc := cellN_later hC y1
                have d0 : ρ (.tmp 46) = .pointer (some ⟨nb, 1, none⟩) := hdep 1 46 (by kernel_rfl) (by kernel_rfl)
                simp [go_sem, d0, kc]
                exact ⟨Below.refl _ _, rfl⟩
              | 3, _, ho, hf, hg, hfr, hdep =>
                simp only [gTA, gCZ, gCS, gSI] at ho
                subst ho
                refine ⟨fun _ => ?_, fun hw => absurd (show true = false from hw) (by decide)⟩
                have ts : ρ (.tmp 8) = .int .i64 (ix : Int) := hfr 8 (by kernel_rfl)
                simp [go_sem, ts]
                exact ⟨Below.refl _ _, rfl⟩
              | 4, _, ho, hf, hg, hfr, hdep =>
                simp only [gTA, gCZ, gCS, gSI] at ho
                subst ho
                refine ⟨fun _ => ?_, fun hw => absurd (show true = false from hw) (by decide)⟩
                have d0 : ρ (.tmp 47) = .slice (some ⟨ab, aof, none⟩) AL c := hdep 2 47 (by kernel_rfl) (by kernel_rfl)
                have d1 : ρ (.tmp 48) = .int .i64 (ix : Int) := hdep 3 48 (by kernel_rfl) (by kernel_rfl)
                simp [go_sem, d0, d1, hiL]
                exact ⟨Below.refl _ _, rfl⟩
              | 5, _, ho, hf, hg, hfr, hdep =>
                simp only [gTA, gCZ, gCS, gSI] at ho
                subst ho
                refine ⟨fun _ => ?_, fun hw => absurd (show true = false from hw) (by decide)⟩
                have d0 : ρ (.tmp 49) = .pointer (some ⟨ab, aof + ix * 5, none⟩) := hdep 4 49 (by kernel_rfl) (by kernel_rfl)
                simp [go_sem, d0]
                exact ⟨Below.refl _ _, rfl⟩
              | 6, _, ho, hf, hg, hfr, hdep =>
                simp only [gTA, gCZ, gCS, gSI] at ho
                subst ho
                refine ⟨fun _ => ?_, fun hw => absurd (show true = false from hw) (by decide)⟩
                have kc := cellN_later hC a1
                have d0 : ρ (.tmp 50) = .pointer (some ⟨ab, aof + ix * 5 + 1, none⟩) := hdep 5 50 (by kernel_rfl) (by kernel_rfl)
                simp [go_sem, d0, kc]
                exact ⟨Below.refl _ _, rfl⟩
              | 7, _, ho, hf, hg, hfr, hdep =>
                simp only [gTA, gCZ, gCS, gSI] at ho
                subst ho
                refine ⟨fun _ => ?_, fun hw => absurd (show true = false from hw) (by decide)⟩
                have ts : ρ (.tmp 1) = .pointer (some ⟨nb, 0, none⟩) := hfr 1 (by kernel_rfl)
                simp [go_sem, ts]
                exact ⟨Below.refl _ _, rfl⟩
              | 8, _, ho, hf, hg, hfr, hdep =>
                simp only [gTA, gCZ, gCS, gSI] at ho
                subst ho
                refine ⟨fun _ => ?_, fun hw => absurd (show true = false from hw) (by decide)⟩
                have kc := cellN_later hC y1
                have d0 : ρ (.tmp 52) = .pointer (some ⟨nb, 1, none⟩) := hdep 7 52 (by kernel_rfl) (by kernel_rfl)
                simp [go_sem, d0, kc]
                exact ⟨Below.refl _ _, rfl⟩
              | 9, _, ho, hf, hg, hfr, hdep =>
                simp only [gTA, gCZ, gCS, gSI] at ho
                subst ho
                refine ⟨fun _ => ?_, fun hw => absurd (show true = false from hw) (by decide)⟩
                have ts : ρ (.tmp 8) = .int .i64 (ix : Int) := hfr 8 (by kernel_rfl)
                simp [go_sem, ts]
                exact ⟨Below.refl _ _, rfl⟩
              | 10, _, ho, hf, hg, hfr, hdep =>
                simp only [gTA, gCZ, gCS, gSI] at ho
                subst ho
                refine ⟨fun _ => ?_, fun hw => absurd (show true = false from hw) (by decide)⟩
                have d0 : ρ (.tmp 53) = .slice (some ⟨ab, aof, none⟩) AL c := hdep 8 53 (by kernel_rfl) (by kernel_rfl)
                have d1 : ρ (.tmp 54) = .int .i64 (ix : Int) := hdep 9 54 (by kernel_rfl) (by kernel_rfl)
                simp [go_sem, d0, d1, hiL]
                exact ⟨Below.refl _ _, rfl⟩
              | 11, _, ho, hf, hg, hfr, hdep =>
                simp only [gTA, gCZ, gCS, gSI] at ho
                subst ho
                refine ⟨fun _ => ?_, fun hw => absurd (show true = false from hw) (by decide)⟩
                have d0 : ρ (.tmp 55) = .pointer (some ⟨ab, aof + ix * 5, none⟩) := hdep 10 55 (by kernel_rfl) (by kernel_rfl)
                simp [go_sem, d0]
                exact ⟨Below.refl _ _, rfl⟩
              | 12, _, ho, hf, hg, hfr, hdep =>
                simp only [gTA, gCZ, gCS, gSI] at ho
                subst ho
                refine ⟨fun _ => ?_, fun hw => absurd (show true = false from hw) (by decide)⟩
                have kc := cellN_later hC a0
                have d0 : ρ (.tmp 56) = .pointer (some ⟨ab, aof + ix * 5, none⟩) := hdep 11 56 (by kernel_rfl) (by kernel_rfl)
                simp [go_sem, d0, kc]
                exact ⟨Below.refl _ _, rfl⟩
              | 13, _, ho, hf, hg, hfr, hdep =>
                simp only [gTA, gCZ, gCS, gSI] at ho
                subst ho
                refine ⟨fun _ => ?_, fun hw => absurd (show true = false from hw) (by decide)⟩
                have t0 : ρ (.tmp 45) = .agg #[.int .i64 (n3 : Int), .slice (some ⟨ab, aof, none⟩) AL c] := hdep 0 45 (by kernel_rfl) (by kernel_rfl)
                have t1 : ρ (.tmp 51) = .int .i64 zt := hdep 6 51 (by kernel_rfl) (by kernel_rfl)
                have t2 : ρ (.tmp 57) = .int .i64 zf := hdep 12 57 (by kernel_rfl) (by kernel_rfl)
                simp [go_sem, t0, t1, t2, hfs]
                exact ⟨rfl, (PA.out w' (A3.out.below hC)).mono fun e' w'' hh => by obtain ⟨d5, c5, h5, q5, b5⟩ := hh; exact ⟨_, h5, b5, d5, c5, rfl, q5.mono (Nat.le_trans hnw hC.size)⟩⟩
              | 14, _, ho, hf, hg, hfr, hdep =>
                simp only [gTA, gCZ, gCS, gSI] at ho
                subst ho
                refine ⟨fun _ => ?_, fun hw => absurd (show true = false from hw) (by decide)⟩
                obtain ⟨d5, c5, e5, q5⟩ : PatV nb P pe w' (ρ (.tmp 58)) := hdep 13 58 (by kernel_rfl) (by kernel_rfl)
                simp [go_sem, e5]
                exact ⟨Below.refl _ _, d5, c5, rfl, q5⟩
              | 15, _, ho, hf, hg, hfr, hdep =>
                simp only [gTA, gCZ, gCS, gSI] at ho
                subst ho
                refine ⟨fun _ => ?_, fun hw => absurd (show true = false from hw) (by decide)⟩
                obtain ⟨d5, c5, e5, q5⟩ : PatV nb P pe w' (ρ (.tmp 44)) := hdep 14 44 (by kernel_rfl) (by kernel_rfl)
                simp [go_sem, e5]
                exact ⟨Below.refl _ _, d5, c5, rfl, q5⟩
              | 16, _, ho, hf, hg, hfr, hdep =>
                simp only [gTA, gCZ, gCS, gSI] at ho
                subst ho
                refine ⟨fun _ => ?_, fun hw => absurd (show true = false from hw) (by decide)⟩
                obtain ⟨d5, c5, e5, q5⟩ : PatV nb P pe w' (ρ (.tmp 44)) := hdep 14 44 (by kernel_rfl) (by kernel_rfl)
                simp [go_sem, e5]
                exact ⟨Below.refl _ _, rfl⟩
              | 17, _, ho, hf, hg, hfr, hdep =>
                simp only [gTA, gCZ, gCS, gSI] at ho
                subst ho
                refine ⟨fun _ => ?_, fun hw => absurd (show true = false from hw) (by decide)⟩
                obtain ⟨d5, c5, e5, q5⟩ : SliV nb P w' (ρ (.tmp 59)) := hdep 15 59 (by kernel_rfl) (by kernel_rfl)
                simp [go_sem, e5]
                exact ⟨Below.refl _ _, d5, c5, rfl, q5⟩
              | 18, _, ho, hf, hg, hfr, hdep =>
                simp only [gTA, gCZ, gCS, gSI] at ho
                subst ho
                refine ⟨fun _ => ?_, fun hw => absurd (show true = false from hw) (by decide)⟩
                have d0 : ρ (.tmp 60) = .int .i64 pe := hdep 16 60 (by kernel_rfl) (by kernel_rfl)
                simp [go_sem, d0]
                exact ⟨Below.refl _ _, rfl⟩
              | n + 19, _, ho, _, _, _, _ => simp at ho
            · intro d_ i o ρ w' hm ho h0 hf hg hC hcs hfs hfr hdep
              exact absurd hm (by simp)
            · intro U1 W5 hC5 hS
              obtain ⟨d13, c13, e13, q13⟩ : PatV nb P pe W5 (U1 13) := hS 13 (by decide) (by intro h; cases h)
              obtain ⟨d14, c14, e14, q14⟩ : PatV nb P pe W5 (U1 14) := hS 14 (by decide) (by intro h; cases h)
              obtain ⟨d15, c15, e15, q15⟩ : SliV nb P W5 (U1 15) := hS 15 (by decide) (by intro h; cases h)
              obtain ⟨d17, c17, e17, q17⟩ : SliV nb P W5 (U1 17) := hS 17 (by decide) (by intro h; cases h)
              have e0 : U1 0 = .agg #[.int .i64 (n3 : Int), .slice (some ⟨ab, aof, none⟩) AL c] := hS 0 (by decide) (by intro h; cases h)
              have e1 : U1 1 = .pointer (some ⟨nb, 1, none⟩) := hS 1 (by decide) (by intro h; cases h)
              have e2 : U1 2 = .slice (some ⟨ab, aof, none⟩) AL c := hS 2 (by decide) (by intro h; cases h)
              have e3 : U1 3 = .int .i64 (ix : Int) := hS 3 (by decide) (by intro h; cases h)
              have e4 : U1 4 = .pointer (some ⟨ab, aof + ix * 5, none⟩) := hS 4 (by decide) (by intro h; cases h)
              have e5 : U1 5 = .pointer (some ⟨ab, aof + ix * 5 + 1, none⟩) := hS 5 (by decide) (by intro h; cases h)
              have e6 : U1 6 = .int .i64 zt := hS 6 (by decide) (by intro h; cases h)
              have e7 : U1 7 = .pointer (some ⟨nb, 1, none⟩) := hS 7 (by decide) (by intro h; cases h)
              have e8 : U1 8 = .slice (some ⟨ab, aof, none⟩) AL c := hS 8 (by decide) (by intro h; cases h)
              have e9 : U1 9 = .int .i64 (ix : Int) := hS 9 (by decide) (by intro h; cases h)
              have e10 : U1 10 = .pointer (some ⟨ab, aof + ix * 5, none⟩) := hS 10 (by decide) (by intro h; cases h)
              have e11 : U1 11 = .pointer (some ⟨ab, aof + ix * 5, none⟩) := hS 11 (by decide) (by intro h; cases h)
              have e12 : U1 12 = .int .i64 zf := hS 12 (by decide) (by intro h; cases h)
              have e16 : U1 16 = .int .i64 pe := hS 16 (by decide) (by intro h; cases h)
              have e18 : U1 18 = .int .i64 pe := hS 18 (by decide) (by intro h; cases h)
              simp only [puts, e13, e14, e15, e17, e0, e1, e2, e3, e4, e5, e6, e7, e8, e9, e10, e11, e12, e16, e18]
              simp only [Act.put, List.setIfInBounds_toArray, List.set_cons_zero, List.set_cons_succ]
              clear hS e13 e14 e15 e17 e0 e1 e2 e3 e4 e5 e6 e7 e8 e9 e10 e11 e12 e16 e18
              have L5 := hiddenN (L4.out.trans (hC5.mono hnw))
              have Y5 := hiddenN (Y4.out.below hC5)
              have Q5 := hiddenN q17
              have hn5 : nb ≤ W5.heap.size := Nat.le_trans hnw hC5.size
              clear hC5 q13 q14 q15 q17 y0 y1 a0 a1 A3 PA L4 Y4 hnw
              have b6 := (Below.refl W5.heap.size W5).alloc (Nat.le_refl _) (.cells #[.int .i64 (ix : Int), .bool false] 46)
              have AX6 : Hid (AtS (W5.alloc (.cells #[.int .i64 (ix : Int), .bool false] 46)) (some ⟨W5.heap.size, 0, none⟩) [(ix, false)]) := .inr ⟨W5.heap.size, 0, rfl, fun k hk => by
                have e : k = 0 := by simp at hk; omega
                subst e
                exact ⟨(blkA_new 46 W5 #[.int .i64 (ix : Int), .bool false]).cell (k := 0) rfl, (blkA_new 46 W5 #[.int .i64 (ix : Int), .bool false]).cell (k := 1) rfl⟩⟩
              have Q6 := hiddenN (Q5.out.later b6)
              have L6 := hiddenN (L5.out.trans (b6.mono hn5))
              have Y6 := hiddenN (Y5.out.below b6)
              have hw5 : nb + 1 < W5.heap.size := Y5.out.lt
              have hn6 : nb ≤ (W5.alloc (.cells #[.int .i64 (ix : Int), .bool false] 46)).heap.size := Nat.le_trans hn5 b6.size
              have hm6 : W5.heap.size ≤ (W5.alloc (.cells #[.int .i64 (ix : Int), .bool false] 46)).heap.size := b6.size
              have D0 : Hid (Below W5.heap.size W5 (W5.alloc (.cells #[.int .i64 (ix : Int), .bool false] 46))) := b6
              clear b6
              go_upto_region 14 with (at_builtin; refine wpList_appS rfl _ _ rfl W5.heap.size none 0 [] rfl (CapS.nil _ _) (some ⟨W5.heap.size, 0, none⟩) 1 [(ix, false)] rfl (fun e => by cases e) AX6.out (by simp) hm6 1 [(ix, false)] rfl rfl ?_; intro d7 c7 W7 hd7 b7; have C7 := hiddenN hd7; have B7 := hiddenN b7; clear hd7 b7)
              have D7 := hiddenN (D0.out.trans B7.out)
              have L7 := hiddenN (L5.out.trans (D7.out.mono hn5))
              have Y7 := hiddenN (Y5.out.below D7.out)
              have Q7 := hiddenN (Q5.out.later D7.out)
              have hn7 : W5.heap.size ≤ W7.heap.size := D7.out.size
              clear B7 D0 AX6 Q6 L6 Y6 hn6 hm6 L5 Y5 Q5 D7
              go_wp2_with (at_builtin; refine wpList_appS rfl _ _ rfl W5.heap.size d7 c7 [(ix, false)] rfl C7.out d17 c17 P rfl Q7.out.none Q7.out.at (by simp; omega) hn7 (cyB n).length (cyB n) (by rw [CE.out, List.length_append]) CE.out.symm ?_; intro d8 c8 W8 hd8 b8; have C8 := hiddenN hd8; have Y8 := hiddenN (Y7.out.keep (b8.block _ hw5)); have L8 := hiddenN (L7.out.trans (b8.mono hn5)); have z0 := Y8.out.cell (k := 0) rfl; have z1 := Y8.out.cell (k := 1) rfl; have z2 := Y8.out.cell (k := 2) rfl; simp only [List.getElem_toArray, List.getElem_cons_zero, List.getElem_cons_succ] at z0 z1 z2; have f0 := Y8.out.frozen 0; have f1 := Y8.out.frozen 1; have f2 := Y8.out.frozen 2; clear hd8 b8)
              have BU8 := hiddenN ((((But.set W8 (nb + 1) 0 (.int .u8 2)).trans (But.set _ (nb + 1) 1 (.slice none 0 0))).trans (But.set _ (nb + 1) 2 (.slice d8 (cyB n).length c8))))
              have K8 := hiddenN (C8.out.keep (fun x hx => BU8.out.block _ (C8.out.lt x hx).2 (by have := (C8.out.lt x hx).1; omega)))
              refine bodyPost_ret (v := .tuple #[.agg #[.int .u8 2, .slice none 0 0, .slice d8 (cyB n).length c8], .int .i64 0]) (by simp [results, Try.results14, go_sem, z0, z1, z2]) rfl ?_
              exact GOAL.out 2 none 0 0 d8 _ c8 _ V.out.1 (by rw [V.out.2.1]; rfl) rfl (by rw [V.out.2.1]; exact CapR.nil _ _) (K8.out.mono (by omega)) (((L8.out.setCell (by show nb ≤ nb + 1; omega) _).setCell (by show nb ≤ nb + 1; omega) _).setCell (by show nb ≤ nb + 1; omega) _)
        · have hji : ¬ (ix : Int) < (n.arcs.length : Int) := by omega
          have HF : Hid (fuB n.arcs (cnt n) = none) := fuB_none fun i hi => HI.out i (by omega)
          have V := hiddenN (V1.out HB.out HF.out)
          have Y4 := hiddenN (Y3.out.below BR.out)
          have L4 := hiddenN (L3.out.trans (BR.out.mono hnb3))
          have R4 := hiddenN (R3.out.later BR.out)
          have z0 := Y4.out.cell (k := 0) rfl
          have z1 := Y4.out.cell (k := 1) rfl
          have z2 := Y4.out.cell (k := 2) rfl
          simp only [List.getElem_toArray, List.getElem_cons_zero, List.getElem_cons_succ] at z0 z1 z2
          have f0 := Y4.out.frozen 0
          have f1 := Y4.out.frozen 1
          have f2 := Y4.out.frozen 2
          clear V1 V2 PTH EV
          go_wp2
          have BU4 := hiddenN ((((But.set wr (nb + 1) 0 (.int .u8 1)).trans (But.set _ (nb + 1) 1 (.slice d3 n3 c3))).trans (But.set _ (nb + 1) 2 (.slice none 0 0))))
          refine bodyPost_ret (v := .tuple #[.agg #[.int .u8 1, .slice d3 n3 c3, .slice none 0 0], .int .i64 0]) (by simp [results, Try.results14, go_sem, z0, z1, z2]) rfl ?_
          exact GOAL.out 1 d3 n3 c3 none 0 0 _ V.out.1 (by rw [V.out.2.1, rowF_len]) (by rw [V.out.2.2]; rfl) (by rw [V.out.2.1]; exact R4.out.keep (fun x hx => BU4.out.block _ (R4.out.lt x hx).2 (R3N.out x hx))) (by rw [V.out.2.2]; exact CapS.nil _ _) (((L4.out.setCell (by show nb ≤ nb + 1; omega) _).setCell (by show nb ≤ nb + 1; omega) _).setCell (by show nb ≤ nb + 1; omega) _)
  · simp only [if_neg hc] at OF
    have V := hiddenN (sol_bad hc)
    have hcb : (checkN n != 0) = true := by simpa using hc
    clear hc
    have GOAL : Hid (∀ W, Below nb w W → RE (.returned (.tuple #[.agg #[.int .u8 0, .slice none 0 0, .slice none 0 0], .int .i64 (checkN n)])) W) := fun W g3 => by
      rw [← HRE.out]
      refine ⟨none, 0, none, 0, by rw [V.out.1, V.out.2.1, V.out.2.2]; rfl, ?_, ?_, by rw [HNB.out]; exact g3⟩
      · rw [V.out.2.1]; exact CapR.nil _ _
      · rw [V.out.2.2]; exact CapS.nil _ _
    rw [hnb] at XN XB L0
    clear HRE hnb
    generalize checkN n = cd at *
    go_enter Try.func14, Try.ntmps14
    go_upto_region 1 with fail
    generalize (w.alloc (.cells #[.int .i64 n.nodes, .slice a n.arcs.length c] 24)).alloc (.cells #[.int .u8 0, .slice none 0 0, .slice none 0 0] 37) = W0 at *
    rw [HNB.out]
    have y0 := XN.out.cell (k := 0) rfl
    have y1 := XN.out.cell (k := 1) rfl
    simp only [List.getElem_toArray, List.getElem_cons_zero, List.getElem_cons_succ] at y0 y1
    go_wp2_with (go_at_call 28; (with_reducible refine OF.out.mono ?_); rintro e W1 ⟨rfl, b1⟩; have q1 := b1.alloc b1.size (.cells #[.slice none 0 0, .slice none 0 0] 57); have L1 := hiddenN (L0.out.trans (q1.mono (by have := L0.out.size; have := HNB.out; omega))); have Y1 := hiddenN (XB.out.below q1); have z0 := Y1.out.cell (k := 0) rfl; have z1 := Y1.out.cell (k := 1) rfl; have z2 := Y1.out.cell (k := 2) rfl; simp only [List.getElem_toArray, List.getElem_cons_zero, List.getElem_cons_succ] at z0 z1 z2; have f0 := Y1.out.frozen 0; have f1 := Y1.out.frozen 1; have f2 := Y1.out.frozen 2; clear b1 q1)
    refine bodyPost_ret (v := .tuple #[.agg #[.int .u8 0, .slice none 0 0, .slice none 0 0], .int .i64 cd]) (by simp [results, Try.results14, go_sem, z0, z1, z2]) rfl ?_
    exact GOAL.out _ (((L1.out.setCell (by show nb ≤ nb + 1; omega) _).setCell (by show nb ≤ nb + 1; omega) _).setCell (by show nb ≤ nb + 1; omega) _)
theorem capR_type {B : Nat} {w : World} {x : Addr} {c : Nat} {zs : List Int} (h : CapR B w (some x) c zs) : ∃ cur, w.heap[x.block]? = some (.cells cur 3 (0, 0)) := by
  rcases h.2 with ⟨hv, -⟩ | ⟨g, cap, cur, hv, -, hh, -⟩
  · cases hv
  · cases hv; exact ⟨cur, hh⟩
theorem capS_type {B : Nat} {w : World} {x : Addr} {c : Nat} {L : List (Nat × Bool)} (h : CapS B w (some x) c L) : ∃ cur, x = ⟨x.block, 0, none⟩ ∧ BlkA 46 x.block w cur ∧ L.length * 2 ≤ cur.size := by
  rcases h.2 with ⟨hv, -⟩ | ⟨g, cap, cur, hv, -, hh, h1, -, h3, -⟩
  · cases hv
  · cases hv; exact ⟨cur, rfl, hh, by rw [h3]; exact Nat.mul_le_mul_right _ h1⟩
theorem rs_ne {B B' : Nat} {w : World} {x y : Addr} {c c' : Nat} {zs : List Int} {L : List (Nat × Bool)} (h : CapR B w (some x) c zs) (k : CapS B' w (some y) c' L) : x.block ≠ y.block := fun e => by
  obtain ⟨cur, h1⟩ := capR_type h
  obtain ⟨cur2, -, h2, -⟩ := capS_type k
  unfold BlkA at h2
  rw [e, h2] at h1
  simp at h1
theorem rb_ne {B T xb : Nat} {w : World} {x : Addr} {c : Nat} {zs : List Int} {cs : Array Value} (h : CapR B w (some x) c zs) (k : BlkA T xb w cs) (hT : T ≠ 3) : x.block ≠ xb := fun e => by
  obtain ⟨cur, h1⟩ := capR_type h
  unfold BlkA at k
  rw [e, k] at h1
  simp at h1
  exact hT h1.2
theorem AtS.stay {w w' : World} {a : Option Addr} {L : List (Nat × Bool)} (h : AtS w a L) (hk : ∀ x, a = some x → x.block < w.heap.size → w'.heap[x.block]? = w.heap[x.block]?) : AtS w' a L := by
  rcases h with e | ⟨b, off, e, hc⟩
  · exact .inl e
  · refine .inr ⟨b, off, e, fun k hk' => ?_⟩
    have hl : b < w.heap.size := block_lt_of_cell (hc k hk').1
    have hb : w'.heap[b]? = w.heap[b]? := hk _ e hl
    exact ⟨cellF_block (hc k hk').1 hb, cellF_block (hc k hk').2 hb⟩
set_option maxRecDepth 100000 in
set_option maxHeartbeats 32000000 in
theorem balanceSolves_walk (n : NN) (a : Option Addr) (c : Nat) (w : World) (h : ArgN w a c n) : Calls Try.prog 4 #[.agg #[.int .i64 n.nodes, .slice a n.arcs.length c]] w fun e w' => e = .returned (.bool true) ∧ Below w.heap.size w w' := by
  have b0 := (Below.refl w.heap.size w).alloc (Nat.le_refl _) (.cells #[.int .i64 n.nodes, .slice a n.arcs.length c] 24)
  have X0 := hiddenN (blkA_new 24 w #[.int .i64 n.nodes, .slice a n.arcs.length c])
  have B0 := hiddenN b0
  have HA := hiddenN (h.below b0)
  have hroom : n.arcs.length ≤ 4611686018427387904 := by have := h.room; omega
  have AW : Hid (∀ U, Calls Try.prog 13 #[] U fun e w' => e = .returned (.bool true) ∧ Below U.heap.size U w') := fun U => awakeB U
  have y0 := X0.out.cell (k := 0) rfl
  have y1 := X0.out.cell (k := 1) rfl
  simp only [List.getElem_toArray, List.getElem_cons_zero, List.getElem_cons_succ] at y0 y1
  have RS := hiddenN (rsolve_any n a c _ HA.out.lies hroom)
  have PS := hiddenN (fun (U : World) (d : Option Addr) (cc : Nat) (hU : AtN U d n.arcs) => solve_any n d cc U hU hroom)
  have NM := hiddenN (fun (U : World) (g : ArgN U a c n) => rnet_any n a c U g)
  have SN := hiddenN (fun (U : World) (d : Option Addr) (cc : Nat) (g1 : AtN U d n.arcs) (g2 : AtN U a n.arcs) => sameNet_any n d a cc c U g1 g2 hroom)
  have SM := hiddenN (fun (d1 d2 d3 d4 : Option Addr) (c1 c2 c3 c4 : Nat) (U : World) (h1 : At U d1 (rpB n)) (h2 : AtS U d2 (cyB n)) (h3 : At U d3 (rpB n)) (h4 : AtS U d4 (cyB n)) => rsame_any (vdB n) (rpB n) (cyB n) d1 d2 d3 d4 c1 c2 c3 c4 U h1 h2 h3 h4 (by have := sol_few n; omega) (by have := sol_few n; omega))
  unfold SolE at RS PS
  unfold NetE at NM
  have few := sol_few n
  have hcd : (checkN n != checkN n) = false := by simp
  clear b0 h
  generalize vdB n = v at *
  generalize rpB n = R at *
  generalize cyB n = C at *
  generalize checkN n = cd at *
  go_enter Try.func4, Try.ntmps4
  go_upto_region 1 with fail
  generalize w.alloc (.cells #[.int .i64 n.nodes, .slice a n.arcs.length c] 24) = W0 at *
  go_upto_region 2 with (go_at_call 14; (with_reducible refine RS.out.mono ?_); rintro e W1 ⟨d1, c1, d2, c2, rfl, q1, q2, b1⟩; have R1 := hiddenN q1.at; have C1 := hiddenN q2.at; have B1 := hiddenN b1; clear b1 q1 q2)
  clear RS y0 y1
  have b2 := (Below.refl W1.heap.size W1).alloc (Nat.le_refl _) (.cells #[.int .u8 v, .slice d1 R.length c1, .slice d2 C.length c2] 37)
  have X2 := hiddenN (blkA_new 37 W1 #[.int .u8 v, .slice d1 R.length c1, .slice d2 C.length c2])
  have J2 := B1.out.trans (b2.mono B1.out.size)
  have R2 := hiddenN (R1.out.below b2)
  have C2 := hiddenN (C1.out.below b2)
  have L2 := hiddenN (B0.out.trans (J2.mono B0.out.size))
  have N2 := hiddenN (X0.out.below J2)
  have A2 := hiddenN (HA.out.below J2)
  obtain ⟨xb, hxb⟩ : ∃ q, W1.heap.size = q := ⟨_, rfl⟩
  rw [hxb] at X2 ⊢
  clear b2 B1 J2 R1 C1 X0 HA B0 hxb
  generalize W1.alloc (.cells #[.int .u8 v, .slice d1 R.length c1, .slice d2 C.length c2] 37) = W2 at *
  have y0 := N2.out.cell (k := 0) rfl
  have y1 := N2.out.cell (k := 1) rfl
  simp only [List.getElem_toArray, List.getElem_cons_zero, List.getElem_cons_succ] at y0 y1
  go_upto_region 3 with (go_at_call 15; (with_reducible refine (NM.out _ A2.out).mono ?_); rintro e W3 ⟨d, cc, rfl, q1, -, -, -, b3⟩; have M3 := hiddenN q1; have B3 := hiddenN b3; clear q1 b3)
  clear NM y0 y1
  have b4 := (Below.refl W3.heap.size W3).alloc (Nat.le_refl _) (.cells #[.int .i64 n.nodes, .slice d n.arcs.length cc] 24)
  have O4 := hiddenN (blkA_new 24 W3 #[.int .i64 n.nodes, .slice d n.arcs.length cc])
  have J4 := B3.out.trans (b4.mono B3.out.size)
  have X4 := hiddenN (X2.out.below J4)
  have R4 := hiddenN (R2.out.below J4)
  have C4 := hiddenN (C2.out.below J4)
  have L4 := hiddenN (L2.out.trans (J4.mono L2.out.size))
  have N4 := hiddenN (N2.out.below J4)
  have A4 := hiddenN (A2.out.below J4)
  have M4 := hiddenN (M3.out.below b4)
  obtain ⟨ob, hob⟩ : ∃ q, W3.heap.size = q := ⟨_, rfl⟩
  rw [hob] at O4 ⊢
  clear b4 B3 J4 X2 R2 C2 L2 N2 A2 M3 hob
  generalize W3.alloc (.cells #[.int .i64 n.nodes, .slice d n.arcs.length cc] 24) = W4 at *
  have y0 := O4.out.cell (k := 0) rfl
  have y1 := O4.out.cell (k := 1) rfl
  simp only [List.getElem_toArray, List.getElem_cons_zero, List.getElem_cons_succ] at y0 y1
  go_upto_region 4 with (go_at_call 16; (with_reducible refine (PS.out _ d cc M4.out).mono ?_); rintro e W5 ⟨d3, c3, d4, c4, rfl, q1, q2, b5⟩; have R5 := hiddenN q1; have C5 := hiddenN q2; have B5 := hiddenN b5; clear b5 q1 q2)
  clear y0 y1
  have b6 := (Below.refl W5.heap.size W5).alloc (Nat.le_refl _) (.cells #[.int .u8 v, .slice d3 R.length c3, .slice d4 C.length c4] 37)
  have Y6 := hiddenN (blkA_new 37 W5 #[.int .u8 v, .slice d3 R.length c3, .slice d4 C.length c4])
  have J6 := B5.out.trans (b6.mono B5.out.size)
  have RB6 := hiddenN (R5.out.later b6)
  have CB6 := hiddenN (C5.out.later b6)
  have X6 := hiddenN (X4.out.below J6)
  have R6 := hiddenN (R4.out.below J6)
  have C6 := hiddenN (C4.out.below J6)
  have L6 := hiddenN (L4.out.trans (J6.mono L4.out.size))
  have N6 := hiddenN (N4.out.below J6)
  have A6 := hiddenN (A4.out.below J6)
  have M6 := hiddenN (M4.out.below J6)
  have O6 := hiddenN (O4.out.below J6)
  have S6 : Hid (W4.heap.size ≤ W5.heap.size ∧ xb < W4.heap.size) := ⟨B5.out.size, X4.out.lt⟩
  have CA4 : Hid (∀ x, d2 = some x → C ≠ [] → x.block < W4.heap.size) := fun x hx hne => by
    rcases C4.out with e | ⟨b, off, e, hc⟩
    · exact absurd e hne
    · rw [e] at hx; cases hx; exact block_lt_of_cell (hc 0 (List.length_pos_iff.2 hne)).1
  obtain ⟨yb, hyb⟩ : ∃ q, W5.heap.size = q := ⟨_, rfl⟩
  rw [hyb] at Y6 S6 ⊢
  clear b6 B5 J6 X4 R4 C4 N4 A4 M4 O4 R5 C5 hyb
  generalize W5.alloc (.cells #[.int .u8 v, .slice d3 R.length c3, .slice d4 C.length c4] 37) = W6 at *
  have y0 := O6.out.cell (k := 0) rfl
  have y1 := O6.out.cell (k := 1) rfl
  simp only [List.getElem_toArray, List.getElem_cons_zero, List.getElem_cons_succ] at y0 y1
  go_upto_region 5 with (go_at_call 16; (with_reducible refine (PS.out _ d cc M6.out).mono ?_); rintro e W7 ⟨d5, c5, d6, c6, rfl, q1, q2, b7⟩; have R7 := hiddenN q1; have C7 := hiddenN q2; have B7 := hiddenN b7; clear b7 q1 q2)
  clear y0 y1 PS
  have b8 := (Below.refl W7.heap.size W7).alloc (Nat.le_refl _) (.cells #[.int .u8 v, .slice d5 R.length c5, .slice d6 C.length c6] 37)
  have Z8 := hiddenN (blkA_new 37 W7 #[.int .u8 v, .slice d5 R.length c5, .slice d6 C.length c6])
  have J8 := B7.out.trans (b8.mono B7.out.size)
  have RC8 := hiddenN (R7.out.later b8)
  have CC8 := hiddenN (C7.out.later b8)
  have RB8 := hiddenN (RB6.out.later J8)
  have CB8 := hiddenN (CB6.out.later J8)
  have Y8 := hiddenN (Y6.out.below J8)
  have X8 := hiddenN (X6.out.below J8)
  have R8 := hiddenN (R6.out.below J8)
  have C8 := hiddenN (C6.out.below J8)
  have L8 := hiddenN (L6.out.trans (J8.mono L6.out.size))
  have N8 := hiddenN (N6.out.below J8)
  have A8 := hiddenN (A6.out.below J8)
  have M8 := hiddenN (M6.out.below J8)
  have O8 := hiddenN (O6.out.below J8)
  have AP : Hid (∀ x y, d3 = some x → d5 = some y → x.block ≠ y.block) := fun x y hx hy => by
    have q1 := (RB6.out.lt x hx).2
    have q2 := (R7.out.lt y hy).1
    omega
  have AC : Hid (∀ x y, d4 = some x → d6 = some y → x.block ≠ y.block) := fun x y hx hy => by
    have q1 := (CB6.out.lt x hx).2
    have q2 := (C7.out.lt y hy).1
    omega
  have S8 : Hid (W4.heap.size ≤ (W7.alloc (.cells #[.int .u8 v, .slice d5 R.length c5, .slice d6 C.length c6] 37)).heap.size ∧ W4.heap.size ≤ W6.heap.size) := ⟨by have := S6.out; have := Y6.out.lt; have := J8.size; omega, by have := S6.out; have := Y6.out.lt; omega⟩
  have LWX : Hid (w.heap.size ≤ W4.heap.size) := L4.out.size
  obtain ⟨zb, hzb⟩ : ∃ q, W7.heap.size = q := ⟨_, rfl⟩
  rw [hzb] at Z8 ⊢
  clear b8 B7 J8 X6 R6 C6 N6 A6 M6 O6 R7 C7 hzb RB6 CB6 Y6 L6
  generalize W7.alloc (.cells #[.int .u8 v, .slice d5 R.length c5, .slice d6 C.length c6] 37) = W8 at *
  have x0 := X8.out.cell (k := 0) rfl
  have x1 := X8.out.cell (k := 1) rfl
  have x2 := X8.out.cell (k := 2) rfl
  have u0 := Y8.out.cell (k := 0) rfl
  have u1 := Y8.out.cell (k := 1) rfl
  have u2 := Y8.out.cell (k := 2) rfl
  simp only [List.getElem_toArray, List.getElem_cons_zero, List.getElem_cons_succ] at x0 x1 x2 u0 u1 u2
  have S1 := hiddenN (SM.out d1 d2 d3 d4 c1 c2 c3 c4 W8 R8.out C8.out RB8.out.at CB8.out.at)
  go_upto_region 7 with (first
    | (go_at_call 18; (with_reducible refine (SN.out _ d cc (M8.out.below B10.out) (A8.out.lies.below B10.out)).mono ?_); rintro e W11 ⟨rfl, b11⟩; have B11 := hiddenN (B10.out.trans (b11.mono B10.out.size)); clear b11)
    | (go_at_call 17; (with_reducible refine (SM.out d1 d2 d5 d6 c1 c2 c5 c6 _ (R8.out.below B9.out) (C8.out.below B9.out) (RC8.out.at.below B9.out) (CC8.out.at.below B9.out)).mono ?_); rintro e W10 ⟨rfl, b10⟩; have B10 := hiddenN (B9.out.trans (b10.mono B9.out.size)); have o0 := (O8.out.below B10.out).cell (k := 0) rfl; have o1 := (O8.out.below B10.out).cell (k := 1) rfl; have n0 := (N8.out.below B10.out).cell (k := 0) rfl; have n1 := (N8.out.below B10.out).cell (k := 1) rfl; simp only [List.getElem_toArray, List.getElem_cons_zero, List.getElem_cons_succ] at o0 o1 n0 n1; clear b10)
    | (go_at_call 17; (with_reducible refine S1.out.mono ?_); rintro e W9 ⟨rfl, b9⟩; have B9 := hiddenN b9; have x0 := (X8.out.below b9).cell (k := 0) rfl; have x1 := (X8.out.below b9).cell (k := 1) rfl; have x2 := (X8.out.below b9).cell (k := 2) rfl; have z0 := (Z8.out.below b9).cell (k := 0) rfl; have z1 := (Z8.out.below b9).cell (k := 1) rfl; have z2 := (Z8.out.below b9).cell (k := 2) rfl; simp only [List.getElem_toArray, List.getElem_cons_zero, List.getElem_cons_succ] at x0 x1 x2 z0 z1 z2; clear b9))
  have XB := hiddenN (X8.out.below B11.out)
  have YB := hiddenN (Y8.out.below B11.out)
  have ZB := hiddenN (Z8.out.below B11.out)
  have RB := hiddenN (RB8.out.later B11.out)
  have CB := hiddenN (CB8.out.later B11.out)
  have RC := hiddenN ((RC8.out.later B11.out).mono S8.out.2)
  have CC := hiddenN ((CC8.out.later B11.out).mono S8.out.2)
  have CA := hiddenN (C8.out.below B11.out)
  have LB := hiddenN (L8.out.trans (B11.out.mono L8.out.size))
  have hS8 : W4.heap.size ≤ W11.heap.size := Nat.le_trans S8.out.1 B11.out.size
  clear S1 SM SN X8 Y8 Z8 RB8 CB8 RC8 CC8 R8 C8 L8 N8 A8 M8 O8 B9 B10 B11 S6 x0 x1 x2 u0 u1 u2 S8
  have u1 := YB.out.cell (k := 1) rfl
  have z1 := ZB.out.cell (k := 1) rfl
  simp only [List.getElem_toArray, List.getElem_cons_zero, List.getElem_cons_succ] at u1 z1
  have TB := hiddenN (table_pair (by omega) (by omega) RB.out RC.out AP.out hS8)
  have AT := hiddenN (apart_keeps _ _ 2 2 _ _ _ _ _ TB.out)
  have bt := (Below.refl W11.heap.size W11).alloc (Nat.le_refl _) (.cells #[.slice d3 R.length c3, .slice d5 R.length c5] 25)
  have NEX : Hid (∀ k, (∀ x, d3 = some x → x.block ≠ k) → (∀ x, d5 = some x → x.block ≠ k) → ∀ j x, j < 2 → duoF d3 d5 j = some x → x.block ≠ k) := fun k h1 h2 j x hj hx => by
    match j, hj, hx with
    | 0, _, hx => exact h1 x hx
    | 1, _, hx => exact h2 x hx
  have BT := hiddenN bt
  clear bt TB
  go_upto_region 8 with (go_at_call 19; (with_reducible refine AT.out.mono ?_); rintro e V1 ⟨rfl, v1, v2⟩; have KB := hiddenN v1; have KE := hiddenN v2; clear v1 v2)
  have ST : Hid (∀ k, k < W11.heap.size → (∀ x, d3 = some x → x.block ≠ k) → (∀ x, d5 = some x → x.block ≠ k) → V1.heap[k]? = W11.heap[k]?) := fun k hk h1 h2 => (KE.out k (Nat.lt_of_lt_of_le hk BT.out.size) (NEX.out k h1 h2)).trans (BT.out.block k hk)
  have LW4 := LWX
  have LV := hiddenN (LB.out.trans (((BT.out.mono hS8).trans KB.out).mono LWX.out))
  have sz1 : W11.heap.size ≤ V1.heap.size := Nat.le_trans BT.out.size KB.out.size
  have XV := hiddenN (XB.out.keep (ST.out _ XB.out.lt (fun x hx => by subst hx; exact rb_ne RB.out XB.out (by decide)) (fun x hx => by subst hx; exact rb_ne RC.out XB.out (by decide))))
  have YV := hiddenN (YB.out.keep (ST.out _ YB.out.lt (fun x hx => by subst hx; exact rb_ne RB.out YB.out (by decide)) (fun x hx => by subst hx; exact rb_ne RC.out YB.out (by decide))))
  have ZV := hiddenN (ZB.out.keep (ST.out _ ZB.out.lt (fun x hx => by subst hx; exact rb_ne RB.out ZB.out (by decide)) (fun x hx => by subst hx; exact rb_ne RC.out ZB.out (by decide))))
  have CBV := hiddenN (CB.out.keep (w' := V1) (fun y hy => ST.out _ (CB.out.lt y hy).2 (fun x hx => by subst hx; subst hy; exact rs_ne RB.out CB.out) (fun x hx => by subst hx; subst hy; exact rs_ne RC.out CB.out)))
  have CCV := hiddenN (CC.out.keep (w' := V1) (fun y hy => ST.out _ (CC.out.lt y hy).2 (fun x hx => by subst hx; subst hy; exact rs_ne RB.out CC.out) (fun x hx => by subst hx; subst hy; exact rs_ne RC.out CC.out)))
  have CAV : Hid (AtS V1 d2 C) := by
    by_cases hne : C = []
    · exact .inl hne
    · refine CA.out.stay fun x hx hlt => ST.out _ hlt (fun y hy e => ?_) (fun y hy e => ?_)
      · have := (RB.out.lt y hy).1
        have := CA4.out x hx hne
        omega
      · have := (RC.out.lt y hy).1
        have := CA4.out x hx hne
        omega
  clear u1 z1 XB YB ZB RB RC CB CC CA LB KB KE ST BT AT NEX AP LWX
  have z2 := ZV.out.cell (k := 2) rfl
  have u2 := YV.out.cell (k := 2) rfl
  simp only [List.getElem_toArray, List.getElem_cons_zero, List.getElem_cons_succ] at z2 u2
  by_cases hC : C = []
  · subst hC
    obtain ⟨WF, hWF⟩ : ∃ q, V1 = q := ⟨_, rfl⟩
    rw [hWF] at XV ZV LV z2 u2 ⊢
    have LF := LV
    simp only [List.length_nil] at z2 u2 ⊢
    go_wp2
    go_loopg [11] 0 (fun gk u wr => u = .int .i64 0 ∧ WF = wr)
    case atStart => exact ⟨rfl, rfl⟩
    case round =>
      obtain ⟨rfl, eW⟩ := hrel
      subst eW
      go_wp2
      go_loopg [12] 0 (fun gk u wr => u = .int .i64 0 ∧ WF = wr)
      case atStart => exact ⟨rfl, rfl⟩
      case round =>
        obtain ⟨rfl, eW⟩ := hrel
        subst eW
        go_wp2_with (go_at_call 13; (with_reducible refine (AW.out _).mono ?_); rintro e W17 ⟨rfl, bw⟩; have L17 := hiddenN (LF.out.trans (bw.mono LF.out.size)); clear bw)
        go_ret
        exact ⟨rfl, L17.out⟩
  · have hcl : 0 < C.length := List.length_pos_iff.2 hC
    obtain ⟨g, eg, hgB⟩ : ∃ g, d4 = some ⟨g, 0, none⟩ ∧ W4.heap.size ≤ g := by
      rcases CBV.out.2 with ⟨hv, hn⟩ | ⟨g, cap, cur, hv, hg, -⟩
      · omega
      · cases hv; exact ⟨g, rfl, hg⟩
    subst eg
    obtain ⟨cur0, -, hbk, hsz⟩ := capS_type CBV.out
    simp only at hbk
    have NEC : Hid (∀ x, d6 = some x → x.block ≠ g) := fun x hx e => AC.out _ x rfl hx e.symm
    have NEA : Hid (∀ x, d2 = some x → x.block ≠ g) := fun x hx e => by have := CA4.out x hx hC; omega
    have NEB : Hid (xb ≠ g ∧ yb ≠ g ∧ zb ≠ g) := by
      refine ⟨fun e => ?_, fun e => ?_, fun e => ?_⟩
      · have q := XV.out; unfold BlkA at q hbk; rw [e, hbk] at q; simp at q
      · have q := YV.out; unfold BlkA at q hbk; rw [e, hbk] at q; simp at q
      · have q := ZV.out; unfold BlkA at q hbk; rw [e, hbk] at q; simp at q
    have BK := hiddenN hbk
    clear hbk CBV z2 u2
    have u2 := YV.out.cell (k := 2) rfl
    simp only [List.getElem_toArray, List.getElem_cons_zero, List.getElem_cons_succ] at u2
    go_wp2
    go_loopg [11] C.length (fun gk u wr => ∃ i : Nat, i ≤ C.length ∧ gk = C.length - i ∧ u = .int .i64 (i : Int) ∧ But g V1 wr ∧ ∃ cur, BlkA 46 g wr cur ∧ C.length * 2 ≤ cur.size)
    case atStart => exact ⟨0, Nat.zero_le _, rfl, rfl, But.of_below (Below.refl _ _), cur0, BK.out, hsz⟩
    case round =>
      clear BK u2
      obtain ⟨i, hiN, rfl, rfl, hbt, cur, hbk, hcs⟩ := hrel
      have BQ := hiddenN hbt
      have BK := hiddenN hbk
      clear hbt hbk
      have YQ := hiddenN (YV.out.keep (BQ.out.block _ YV.out.lt NEB.out.2.1))
      have u2 := YQ.out.cell (k := 2) rfl
      simp only [List.getElem_toArray, List.getElem_cons_zero, List.getElem_cons_succ] at u2
      by_cases hlt : i < C.length
      · have hki : (i : Int) < (C.length : Int) := by omega
        obtain ⟨o0, ho0⟩ : ∃ o, cur[i * 2]? = some o := ⟨_, Array.getElem?_eq_getElem (by omega)⟩
        obtain ⟨o1, ho1⟩ : ∃ o, cur[i * 2 + 1]? = some o := ⟨_, Array.getElem?_eq_getElem (by omega)⟩
        have k0 := BK.out.cell ho0
        have k1 := BK.out.cell ho1
        have f0 := BK.out.frozen (i * 2)
        have f1 := BK.out.frozen (i * 2 + 1)
        have BN : Hid (∃ cur', BlkA 46 g ((wr.setCell ⟨g, i * 2, none⟩ (.int .i64 (-1))).setCell ⟨g, i * 2 + 1, none⟩ (.bool false)) cur' ∧ C.length * 2 ≤ cur'.size) := ⟨_, (BK.out.set (i * 2) (.int .i64 (-1))).set (i * 2 + 1) (.bool false), by simpa using hcs⟩
        have BU := hiddenN (BQ.out.trans ((But.set wr g (i * 2) (.int .i64 (-1))).trans (But.set _ g (i * 2 + 1) (.bool false))))
        clear ho0 ho1 hcs BK
        go_wp2
        go_roundg (C.length - (i + 1))
        case measure => omega
        case rel => exact ⟨i + 1, by omega, rfl, by go_num, BU.out, BN.out⟩
      · have hki : ¬ (i : Int) < (C.length : Int) := by omega
        obtain ⟨WF, hWF⟩ : ∃ q, wr = q := ⟨_, rfl⟩
        rw [hWF] at BQ YQ u2 ⊢
        clear hWF BK hcs
        have XF := hiddenN (XV.out.keep (BQ.out.block _ XV.out.lt NEB.out.1))
        have ZF := hiddenN (ZV.out.keep (BQ.out.block _ ZV.out.lt NEB.out.2.2))
        have CC := hiddenN (CCV.out.at.stay (w' := WF) (fun x hx hl => BQ.out.block _ hl (NEC.out x hx)))
        have CA := hiddenN (CAV.out.stay (w' := WF) (fun x hx hl => BQ.out.block _ hl (NEA.out x hx)))
        have hwg : w.heap.size ≤ g := Nat.le_trans LW4.out hgB
        have LF := hiddenN (LV.out.trans (BQ.out.below hwg LV.out.size))
        clear XV ZV CCV CAV BQ YQ LV
        have z2 := ZF.out.cell (k := 2) rfl
        simp only [List.getElem_toArray, List.getElem_cons_zero, List.getElem_cons_succ] at z2
        go_wp2
        clear z2 u2
        go_loopg [12] C.length (fun gk u wr => ∃ i : Nat, i ≤ C.length ∧ gk = C.length - i ∧ u = .int .i64 (i : Int) ∧ Below WF.heap.size WF wr)
        case atStart => exact ⟨0, Nat.zero_le _, rfl, rfl, Below.refl _ _⟩
        case round =>
          obtain ⟨i, hiN, rfl, rfl, hBr⟩ := hrel
          have BR := hiddenN hBr
          clear hBr
          have zc := (ZF.out.below BR.out).cell (k := 2) rfl
          have xc := (XF.out.below BR.out).cell (k := 2) rfl
          simp only [List.getElem_toArray, List.getElem_cons_zero, List.getElem_cons_succ] at zc xc
          by_cases hlt : i < C.length
          · have hki : (i : Int) < (C.length : Int) := by omega
            rcases CC.out.below BR.out with e | ⟨cb, co, ec, hcc⟩
            · rw [e] at hlt; exact absurd hlt (Nat.not_lt_zero _)
            rcases CA.out.below BR.out with e | ⟨ab, ao, ea, hca⟩
            · rw [e] at hlt; exact absurd hlt (Nat.not_lt_zero _)
            obtain ⟨c0, c1'⟩ := hcc i hlt
            obtain ⟨a0, a1⟩ := hca i hlt
            subst ec
            subst ea
            clear hcc hca
            generalize ((nthS C i).1 : Int) = sz at *
            generalize (nthS C i).2 = sb at *
            have e1 : (sz == sz) = true := by simp
            have e2 : (sb == sb) = true := by simp
            go_upto_region 15 with fail
            go_quiet (fail)
            have BS := hiddenN (BR.out.trans ((drewF wr nq).mono BR.out.size))
            clear c0 c1' a0 a1 zc xc
            generalize wr.drewN nq = W16 at *
            go_wp2
            go_roundg (C.length - (i + 1))
            case measure => omega
            case rel => exact ⟨i + 1, by omega, rfl, by go_num, BS.out⟩
          · have hki : ¬ (i : Int) < (C.length : Int) := by omega
            have LZ := hiddenN (LF.out.trans (BR.out.mono LF.out.size))
            go_wp2_with (go_at_call 13; (with_reducible refine (AW.out _).mono ?_); rintro e W17 ⟨rfl, bw⟩; have L17 := hiddenN (LZ.out.trans (bw.mono LZ.out.size)); clear bw)
            go_ret
            exact ⟨rfl, L17.out⟩
end Go.Proofs.Ytecmkienoofccaa
