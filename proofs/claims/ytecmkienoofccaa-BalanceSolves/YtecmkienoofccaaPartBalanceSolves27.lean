/- Texts of one chain, laid one behind the other. -/
import Derived.Test.YtecmkienoofccaaPartBalanceSolves26
import Derived.Test.YtecmkienoofccaaPartBalanceSolves22
import Derived.Test.YtecmkienoofccaaPartBalanceSolves20
import Derived.Test.YtecmkienoofccaaPartBalanceSolves21
namespace Go.Proofs.Ytecmkienoofccaa
open Go.ChangeShapes Go.WideShapes Go.ChangeAt Go.RowKit
/-- The cycle by an arc: along it, and home along the forest. -/
def cycB (n : NN) (i : Nat) : List (Nat × Bool) := (i, false) :: (pathP n (nthNa n.arcs i).t (nthNa n.arcs i).f).1
def CycE (n : NN) (i : Nat) (w : World) (e : Ending) (w' : World) : Prop := ∃ d cc, e = .returned (.slice d (cycB n i).length cc) ∧ CapS w.heap.size w' d cc (cycB n i) ∧ Below w.heap.size w w'
set_option maxRecDepth 100000 in
set_option maxHeartbeats 8000000 in
theorem cycleBy_any (n : NN) (a : Option Addr) (c i : Nat) (w : World) (h : AtN w a n.arcs) (hl : n.arcs.length ≤ 1000) (hi : i < n.arcs.length) :
    Calls Try.prog 33 #[.agg #[.int .i64 n.nodes, .slice a n.arcs.length c], .int .i64 (i : Int)] w (CycE n i w) := by
  have b0 := (Below.refl w.heap.size w).alloc (Nat.le_refl _) (.cells #[.int .i64 n.nodes, .slice a n.arcs.length c] 24)
  have X0 := hiddenN (blkA_new 24 w #[.int .i64 n.nodes, .slice a n.arcs.length c])
  have B0 := hiddenN b0
  have HA := hiddenN (h.below b0)
  have PA := hiddenN (fun U (hU : AtN U a n.arcs) => path_any n a c (nthNa n.arcs i).t (nthNa n.arcs i).f U hU (by omega))
  have PL := pathP_len n (nthNa n.arcs i).t (nthNa n.arcs i).f
  have CE : Hid (∀ P, (pathP n (nthNa n.arcs i).t (nthNa n.arcs i).f).1 = P → cycB n i = [(i, false)] ++ P) := fun P hP => by unfold cycB; rw [hP]; rfl
  have CE := hiddenN (CE.out _ rfl)
  rcases h with e | ⟨nb, no, en, hcn⟩
  · rw [e] at hi; exact absurd hi (Nat.not_lt_zero _)
  obtain ⟨a0, a1, a2, a3, a4⟩ := hcn i hi
  replace a0 := cellN_later b0 a0
  replace a1 := cellN_later b0 a1
  replace a2 := cellN_later b0 a2
  replace a3 := cellN_later b0 a3
  replace a4 := cellN_later b0 a4
  subst en
  clear hcn b0
  obtain ⟨RE, hRE⟩ : ∃ R, CycE n i w = R := ⟨_, rfl⟩
  rw [hRE]
  have HRE := hiddenN hRE
  clear hRE
  unfold PatE at PA
  generalize (pathP n (nthNa n.arcs i).t (nthNa n.arcs i).f).1 = P at *
  generalize (pathP n (nthNa n.arcs i).t (nthNa n.arcs i).f).2 = pe at *
  generalize nthNa n.arcs i = x at *
  have hiI : (i : Int) < (n.arcs.length : Int) := by omega
  have y1 := X0.out.cell (k := 1) rfl
  simp only [List.getElem_toArray, List.getElem_cons_zero, List.getElem_cons_succ] at y1
  go_enter Try.func33, Try.ntmps33
  go_upto_region 1 with fail
  generalize w.alloc (.cells #[.int .i64 n.nodes, .slice (some ⟨nb, no, none⟩) n.arcs.length c] 24) = W0 at *
  go_upto_region 2 with fail
  have b1 := (Below.refl W0.heap.size W0).alloc (Nat.le_refl _) (.cells #[.int .i64 x.f, .int .i64 x.t, .int .i64 x.g, .int .i64 x.k, .int .i64 x.s] 52)
  have X1 := hiddenN (X0.out.below b1)
  have XA := hiddenN (blkA_new 52 W0 #[.int .i64 x.f, .int .i64 x.t, .int .i64 x.g, .int .i64 x.k, .int .i64 x.s])
  have L1 := hiddenN (B0.out.trans (b1.mono B0.out.size))
  have H1 := hiddenN (HA.out.below b1)
  obtain ⟨ab, hab⟩ : ∃ q, W0.heap.size = q := ⟨_, rfl⟩
  rw [hab] at XA ⊢
  clear hab b1 a0 a1 a2 a3 a4 y1 HA X0
  generalize W0.alloc (.cells #[.int .i64 x.f, .int .i64 x.t, .int .i64 x.g, .int .i64 x.k, .int .i64 x.s] 52) = W1 at *
  have y0 := X1.out.cell (k := 0) rfl
  have y1 := X1.out.cell (k := 1) rfl
  have x0 := XA.out.cell (k := 0) rfl
  have x1 := XA.out.cell (k := 1) rfl
  simp only [List.getElem_toArray, List.getElem_cons_zero, List.getElem_cons_succ] at y0 y1 x0 x1
  go_upto_region 3 with (go_at_call 48; (with_reducible refine (PA.out _ H1.out).mono ?_); rintro e W2 ⟨d2, c2, rfl, q1, q2⟩; have C2 := hiddenN (q1.mono L1.out.size); have L2 := hiddenN (L1.out.trans (q2.mono L1.out.size)); clear q1 q2)
  clear y0 y1 x0 x1 X1 XA H1 PA L1
  have b3 := (Below.refl W2.heap.size W2).alloc (Nat.le_refl _) (.cells #[.int .i64 (i : Int), .bool false] 46)
  have CL : Hid (CapS w.heap.size (W2.alloc (.cells #[.int .i64 (i : Int), .bool false] 46)) (some ⟨W2.heap.size, 0, none⟩) 1 [(i, false)]) := World.ownsRow_lit W2 #[.int .i64 (i : Int), .bool false] 1 L2.out.size (by decide) rfl
  have C3 := hiddenN (C2.out.later b3)
  have L3 := hiddenN (L2.out.trans (b3.mono L2.out.size))
  clear b3 C2
  go_wp2_with (at_builtin; refine wpList_appS rfl _ _ rfl w.heap.size (some ⟨W2.heap.size, 0, none⟩) 1 [(i, false)] rfl CL.out d2 c2 P rfl C3.out.none C3.out.at (by simp; omega) L3.out.size (cycB n i).length (cycB n i) (by rw [CE.out, List.length_append]) CE.out.symm ?_; intro d4 c4 W4 hd4 b4; have D4 := hiddenN hd4; have L4 := hiddenN (L3.out.trans b4); clear hd4 b4)
  rw [← HRE.out]
  exact ⟨d4, c4, rfl, D4.out, L4.out⟩
/-! ### Solve -/
def cnt (n : NN) : Nat → Nat := cntB n.arcs n.arcs.length
def bigA (n : NN) : Bool := bigN (cnt n) n.nodes.toNat
def vdB (n : NN) : Int := if checkN n = 0 then (if bigA n then 3 else match fuB n.arcs (cnt n) with | some _ => 2 | none => 1) else 0
def rpB (n : NN) : List Int := if checkN n = 0 then (if bigA n then [] else match fuB n.arcs (cnt n) with | some _ => [] | none => rowF n.nodes.toNat (cnt n)) else []
def cyB (n : NN) : List (Nat × Bool) := if checkN n = 0 then (if bigA n then [] else match fuB n.arcs (cnt n) with | some i => cycB n i | none => []) else []
theorem sol_bad {n : NN} (h : ¬ checkN n = 0) : vdB n = 0 ∧ rpB n = [] ∧ cyB n = [] := by unfold vdB rpB cyB; rw [if_neg h, if_neg h, if_neg h]; exact ⟨rfl, rfl, rfl⟩
theorem sol_big {n : NN} (h : checkN n = 0) (hb : bigA n = true) : vdB n = 3 ∧ rpB n = [] ∧ cyB n = [] := by unfold vdB rpB cyB; rw [if_pos h, if_pos h, if_pos h, hb]; exact ⟨rfl, rfl, rfl⟩
theorem sol_odd {n : NN} {i : Nat} (h : checkN n = 0) (hb : bigA n = false) (hf : fuB n.arcs (cnt n) = some i) : vdB n = 2 ∧ rpB n = [] ∧ cyB n = cycB n i := by unfold vdB rpB cyB; rw [if_pos h, if_pos h, if_pos h, hb, hf]; exact ⟨rfl, rfl, rfl⟩
theorem sol_even {n : NN} (h : checkN n = 0) (hb : bigA n = false) (hf : fuB n.arcs (cnt n) = none) : vdB n = 1 ∧ rpB n = rowF n.nodes.toNat (cnt n) ∧ cyB n = [] := by unfold vdB rpB cyB; rw [if_pos h, if_pos h, if_pos h, hb, hf]; exact ⟨rfl, rfl, rfl⟩
/-- How Solve ends. -/
def SolE (n : NN) (w : World) (e : Ending) (w' : World) : Prop := ∃ d1 c1 d2 c2, e = .returned (.tuple #[.agg #[.int .u8 (vdB n), .slice d1 (rpB n).length c1, .slice d2 (cyB n).length c2], .int .i64 (checkN n)]) ∧ CapR w.heap.size w' d1 c1 (rpB n) ∧ CapS w.heap.size w' d2 c2 (cyB n) ∧ Below w.heap.size w w'
set_option maxRecDepth 100000 in
set_option maxHeartbeats 16000000 in
theorem solve_any (n : NN) (a : Option Addr) (c : Nat) (w : World) (h : AtN w a n.arcs) (hl : n.arcs.length ≤ 4611686018427387904) : Calls Try.prog 16 #[.agg #[.int .i64 n.nodes, .slice a n.arcs.length c]] w (SolE n w) := by
  have b0 := (Below.refl w.heap.size w).alloc (Nat.le_refl _) (.cells #[.int .i64 n.nodes, .slice a n.arcs.length c] 24)
  have b1 := (Below.refl (w.alloc (.cells #[.int .i64 n.nodes, .slice a n.arcs.length c] 24)).heap.size (w.alloc (.cells #[.int .i64 n.nodes, .slice a n.arcs.length c] 24))).alloc (Nat.le_refl _) (.cells #[.int .u8 0, .slice none 0 0, .slice none 0 0] 37)
  have hs0 : (w.alloc (.cells #[.int .i64 n.nodes, .slice a n.arcs.length c] 24)).heap.size = w.heap.size + 1 := World.size_alloc _ _
  have b2 := b0.trans (b1.mono b0.size)
  have XN := hiddenN ((blkA_new 24 w #[.int .i64 n.nodes, .slice a n.arcs.length c]).below b1)
  have XB := hiddenN (blkA_new 37 (w.alloc (.cells #[.int .i64 n.nodes, .slice a n.arcs.length c] 24)) #[.int .u8 0, .slice none 0 0, .slice none 0 0])
  rw [hs0] at XB
  have L0 := hiddenN b2
  have HA := hiddenN (h.below b2)
  have OF := hiddenN (ofF_any n a c _ (h.below b2) hl)
  unfold OfFE at OF
  clear b0 b1 b2 hs0 h
  obtain ⟨RE, hRE⟩ : ∃ R, SolE n w = R := ⟨_, rfl⟩
  rw [hRE]
  have HRE := hiddenN hRE
  clear hRE
  obtain ⟨nb, hnb⟩ : ∃ q, w.heap.size = q := ⟨_, rfl⟩
  have HNB := hiddenN hnb
  by_cases hc : checkN n = 0
  · simp only [if_pos hc] at OF
    have hS := check_sound hc
    have SB := hiddenN hS.souB
    have hN := hS.nodes
    have hM := hS.most
    have CK := hiddenN hc
    have V3 := hiddenN (fun hb => sol_big hc hb)
    have V2 := hiddenN (fun i hb hf => sol_odd (i := i) hc hb hf)
    have V1 := hiddenN (fun hb hf => sol_even hc hb hf)
    clear hS hc
    have CB := hiddenN (fun (i : Nat) U (hU : AtN U a n.arcs) (hi : i < n.arcs.length) => cycleBy_any n a c i U hU (by omega) hi)
    have HC : Hid (∀ v, 1 ≤ cnt n v) := fun v => cntB_pos SB.out.rat (Nat.le_refl _) v
    have hN1 : n.nodes.toNat ≤ 1000 := by omega
    have hM1 : n.arcs.length ≤ 1000 := by omega
    have FC := hiddenN (fun (U : World) (d1 d2 : Option Addr) (c1 c2 : Nat) (g1 : AtN U a n.arcs) (g2 : At U d1 (intsF (treF n.arcs n.arcs.length))) (g3 : At U d2 (rowF n.nodes.toNat (homF n.arcs n.arcs.length))) => forestCounts_any (aa := a) (ac := c) (ta := d1) (tc := c1) (ha := d2) (hac := c2) SB.out hN1 hM1 U g1 g2 g3)
    unfold FcE at FC
    have FU := hiddenN (fun (U : World) (r : Option Addr) (rc : Nat) (g1 : ∀ v, v < n.nodes.toNat → 1 ≤ cnt n v ∧ cnt n v ≤ 9223372036854775807) (g2 : AtN U a n.arcs) (g3 : At U r (rowF n.nodes.toNat (cnt n))) => firstUnlike_any n.arcs n.nodes.toNat (cnt n) n.nodes a r c rc U SB.out hM1 g1 g2 g3)
    have EB : Hid (bigN (cntB n.arcs n.arcs.length) n.nodes.toNat = bigA n) := rfl
    have ER : Hid (rowF n.nodes.toNat (cntB n.arcs n.arcs.length) = rowF n.nodes.toNat (cnt n)) := rfl
    rw [EB.out, ER.out] at FC
    obtain ⟨N, hNN⟩ : ∃ N : Nat, n.nodes = (N : Int) := ⟨n.nodes.toNat, by omega⟩
    have eN : n.nodes.toNat = N := by omega
    rw [eN] at FC FU OF V1
    rw [hNN] at FU
    have NN0 := hiddenN hNN
    rw [hnb] at XN XB L0
    have GOAL : Hid (∀ (v : Int) (d1 : Option Addr) (n1 c1 : Nat) (d2 : Option Addr) (n2 c2 : Nat) (W : World), vdB n = v → n1 = (rpB n).length → n2 = (cyB n).length → CapR nb W d1 c1 (rpB n) → CapS nb W d2 c2 (cyB n) → Below nb w W → RE (.returned (.tuple #[.agg #[.int .u8 v, .slice d1 n1 c1, .slice d2 n2 c2], .int .i64 0])) W) := fun v d1 n1 c1 d2 n2 c2 W e1 e2 e3 g1 g2 g3 => by
      rw [← HRE.out]
      subst e1
      subst e2
      subst e3
      refine ⟨d1, c1, d2, c2, by rw [CK.out], ?_, ?_, ?_⟩
      · rw [HNB.out]; exact g1
      · rw [HNB.out]; exact g2
      · rw [HNB.out]; exact g3
    clear HRE eN hnb hNN
    go_enter Try.func16, Try.ntmps16
    go_upto_region 1 with fail
    generalize (w.alloc (.cells #[.int .i64 n.nodes, .slice a n.arcs.length c] 24)).alloc (.cells #[.int .u8 0, .slice none 0 0, .slice none 0 0] 37) = W0 at *
    rw [HNB.out]
    have y0 := XN.out.cell (k := 0) rfl
    have y1 := XN.out.cell (k := 1) rfl
    simp only [List.getElem_toArray, List.getElem_cons_zero, List.getElem_cons_succ] at y0 y1
    go_upto_region 2 with (go_at_call 31; (with_reducible refine OF.out.mono ?_); rintro e W1 ⟨d1, c1, d2, c2, rfl, q1, q2, -, b1⟩; have T1 := hiddenN q1.at; have H1 := hiddenN q2.at; have B1 := hiddenN b1; clear q1 q2 b1)
    have L1 := hiddenN (L0.out.trans (B1.out.mono (by have := L0.out.size; have := HNB.out; omega)))
    have N1 := hiddenN (XN.out.below B1.out)
    have Y1 := hiddenN (XB.out.below B1.out)
    have A1 := hiddenN (HA.out.below B1.out)
    clear OF XN XB L0 HA B1 y0 y1
    have hnb1 : nb ≤ W1.heap.size := by have := L1.out.size; have := HNB.out; omega
    have b2 := (Below.refl W1.heap.size W1).alloc (Nat.le_refl _) (.cells #[.slice d1 (intsF (treF n.arcs n.arcs.length)).length c1, .slice d2 (rowF N (homF n.arcs n.arcs.length)).length c2] 57)
    have F2 := hiddenN (blkA_new 57 W1 #[.slice d1 (intsF (treF n.arcs n.arcs.length)).length c1, .slice d2 (rowF N (homF n.arcs n.arcs.length)).length c2])
    have L2 := hiddenN (L1.out.trans (b2.mono hnb1))
    have N2 := hiddenN (N1.out.below b2)
    have Y2 := hiddenN (Y1.out.below b2)
    have A2 := hiddenN (A1.out.below b2)
    have T2 := hiddenN (T1.out.below b2)
    have H2 := hiddenN (H1.out.below b2)
    obtain ⟨fb, hfb⟩ : ∃ q, W1.heap.size = q := ⟨_, rfl⟩
    rw [hfb] at F2 ⊢
    rw [intsF_len, rowF_len] at F2 ⊢
    rw [intsF_len, rowF_len] at L2 N2 Y2 A2 T2 H2
    clear b2 hfb T1 H1 N1 Y1 A1 L1 hnb1
    generalize W1.alloc (.cells #[.slice d1 (treF n.arcs n.arcs.length).length c1, .slice d2 N c2] 57) = W2 at *
    have hnb2 : nb ≤ W2.heap.size := by have := L2.out.size; have := HNB.out; omega
    have CL := hiddenN (FC.out W2 d1 d2 c1 c2 A2.out T2.out H2.out)
    have y0 := N2.out.cell (k := 0) rfl
    have y1 := N2.out.cell (k := 1) rfl
    have z0 := F2.out.cell (k := 0) rfl
    have z1 := F2.out.cell (k := 1) rfl
    simp only [List.getElem_toArray, List.getElem_cons_zero, List.getElem_cons_succ] at y0 y1 z0 z1
    rw [NN0.out] at y0 ⊢
    clear FC
    go_upto_region 5 with (go_at_call 32; (with_reducible refine CL.out.mono ?_); rintro e W3 ⟨d3, n3, c3, rfl, b3, h3⟩; have B3 := hiddenN b3; have H3 := hiddenN h3; clear b3 h3)
    have L3 := hiddenN (L2.out.trans (B3.out.mono hnb2))
    have N3 := hiddenN (N2.out.below B3.out)
    have Y3 := hiddenN (Y2.out.below B3.out)
    have A3 := hiddenN (A2.out.below B3.out)
    have Y2L : Hid (nb + 1 < W2.heap.size) := Y2.out.lt
    clear CL y0 y1 z0 z1 T2 H2 F2 N2 Y2 A2
    have hnb3 : nb ≤ W3.heap.size := by have := L3.out.size; have := HNB.out; omega
    cases hb : bigA n with
    | true =>
      have V := hiddenN (V3.out hb)
      have z0 := Y3.out.cell (k := 0) rfl
      have z1 := Y3.out.cell (k := 1) rfl
      have z2 := Y3.out.cell (k := 2) rfl
      simp only [List.getElem_toArray, List.getElem_cons_zero, List.getElem_cons_succ] at z0 z1 z2
      have f0 := Y3.out.frozen 0
      have f1 := Y3.out.frozen 1
      have f2 := Y3.out.frozen 2
      clear hb V1 V2 V3 CB FU H3 HC EB ER
      go_wp2
      refine bodyPost_ret (v := .tuple #[.agg #[.int .u8 3, .slice none 0 0, .slice none 0 0], .int .i64 0]) (by simp [results, Try.results16, go_sem, z0, z1, z2]) rfl ?_
      exact GOAL.out 3 none 0 0 none 0 0 _ V.out.1 (by rw [V.out.2.1]; rfl) (by rw [V.out.2.2]; rfl) (by rw [V.out.2.1]; exact CapR.nil _ _) (by rw [V.out.2.2]; exact CapS.nil _ _) (((L3.out.setCell (by show nb ≤ nb + 1; omega) _).setCell (by show nb ≤ nb + 1; omega) _).setCell (by show nb ≤ nb + 1; omega) _)
    | false =>
      obtain ⟨rfl, r3⟩ := H3.out hb
      have hY2 := Y2L.out
      have R3N : Hid (∀ x, d3 = some x → x.block ≠ nb + 1) := fun x hx => by have := (r3.lt x hx).1; omega
      have R3 := hiddenN (r3.mono hnb2)
      have BU := hiddenN (bigN_no.1 (show bigN (cnt n) n.nodes.toNat = false from hb))
      have HB := hiddenN hb
      clear H3 r3 hb V3 EB ER
      have FU2 := hiddenN (FU.out W3 d3 c3 (fun v hv => ⟨HC.out v, by have := BU.out v (by have := NN0.out; omega); omega⟩) A3.out R3.out.at)
      have y0 := N3.out.cell (k := 0) rfl
      have y1 := N3.out.cell (k := 1) rfl
      simp only [List.getElem_toArray, List.getElem_cons_zero, List.getElem_cons_succ] at y0 y1
      rw [NN0.out] at y0
      cases hf : fuB n.arcs (cnt n) with
      | none =>
        have EF : Hid (fuI n.arcs (cnt n) = -1) := by show _ = _; unfold fuI; rw [hf]
        have V := hiddenN (V1.out HB.out hf)
        rw [EF.out] at FU2
        clear hf V1 V2 CB FU EF
        go_wp2_with (go_at_call 26; (with_reducible refine FU2.out.mono ?_); rintro e W4 ⟨rfl, b4⟩; have B4 := hiddenN b4; have Y4 := hiddenN (Y3.out.below b4); have L4 := hiddenN (L3.out.trans (b4.mono hnb3)); have z0 := Y4.out.cell (k := 0) rfl; have z1 := Y4.out.cell (k := 1) rfl; have z2 := Y4.out.cell (k := 2) rfl; simp only [List.getElem_toArray, List.getElem_cons_zero, List.getElem_cons_succ] at z0 z1 z2; have f0 := Y4.out.frozen 0; have f1 := Y4.out.frozen 1; have f2 := Y4.out.frozen 2; clear b4)
        have BU4 := hiddenN ((((But.set W4 (nb + 1) 0 (.int .u8 1)).trans (But.set _ (nb + 1) 1 (.slice d3 n3 c3))).trans (But.set _ (nb + 1) 2 (.slice none 0 0))))
        refine bodyPost_ret (v := .tuple #[.agg #[.int .u8 1, .slice d3 n3 c3, .slice none 0 0], .int .i64 0]) (by simp [results, Try.results16, go_sem, z0, z1, z2]) rfl ?_
        exact GOAL.out 1 d3 n3 c3 none 0 0 _ V.out.1 (by rw [V.out.2.1, rowF_len]) (by rw [V.out.2.2]; rfl) (by rw [V.out.2.1]; exact (R3.out.later B4.out).keep (fun x hx => BU4.out.block _ ((R3.out.later B4.out).lt x hx).2 (R3N.out x hx))) (by rw [V.out.2.2]; exact CapS.nil _ _) (((L4.out.setCell (by show nb ≤ nb + 1; omega) _).setCell (by show nb ≤ nb + 1; omega) _).setCell (by show nb ≤ nb + 1; omega) _)
      | some i =>
        obtain ⟨hi, -, -⟩ := fuB_some hf
        have EF : Hid (fuI n.arcs (cnt n) = (i : Int)) := by show _ = _; unfold fuI; rw [hf]
        have V := hiddenN (V2.out i HB.out hf)
        rw [EF.out] at FU2
        have CB2 := hiddenN (fun U hU => CB.out i U hU hi)
        unfold CycE at CB2
        rw [NN0.out] at CB2
        have hne : ((i : Int) != -1) = true := by simp
        clear hf V1 V2 CB FU EF
        go_wp2_with (first
          | (go_at_call 26; (with_reducible refine FU2.out.mono ?_); rintro e W4 ⟨rfl, b4⟩; have B4 := hiddenN b4; have Y4 := hiddenN (Y3.out.below b4); have N4 := hiddenN (N3.out.below b4); have A4 := hiddenN (A3.out.below b4); have L4 := hiddenN (L3.out.trans (b4.mono hnb3)); have y0 := N4.out.cell (k := 0) rfl; have y1 := N4.out.cell (k := 1) rfl; simp only [List.getElem_toArray, List.getElem_cons_zero, List.getElem_cons_succ] at y0 y1; rw [NN0.out] at y0; clear b4)
          | (go_at_call 33; (with_reducible refine (CB2.out _ A4.out).mono ?_); rintro e W5 ⟨d5, c5, rfl, q5, b5⟩; have C5 := hiddenN q5; have Y5 := hiddenN (Y4.out.below b5); have L5 := hiddenN (L4.out.trans (b5.mono (Nat.le_trans hnb3 B4.out.size))); have z0 := Y5.out.cell (k := 0) rfl; have z1 := Y5.out.cell (k := 1) rfl; have z2 := Y5.out.cell (k := 2) rfl; simp only [List.getElem_toArray, List.getElem_cons_zero, List.getElem_cons_succ] at z0 z1 z2; have f0 := Y5.out.frozen 0; have f1 := Y5.out.frozen 1; have f2 := Y5.out.frozen 2; clear q5 b5))
        have hW4 : nb + 1 < W4.heap.size := Y4.out.lt
        have BU5 := hiddenN ((((But.set W5 (nb + 1) 0 (.int .u8 2)).trans (But.set _ (nb + 1) 1 (.slice none 0 0))).trans (But.set _ (nb + 1) 2 (.slice d5 (cycB n i).length c5))))
        have K5 := hiddenN (C5.out.keep (fun x hx => BU5.out.block _ (C5.out.lt x hx).2 (by have := (C5.out.lt x hx).1; omega)))
        refine bodyPost_ret (v := .tuple #[.agg #[.int .u8 2, .slice none 0 0, .slice d5 (cycB n i).length c5], .int .i64 0]) (by simp [results, Try.results16, go_sem, z0, z1, z2]) rfl ?_
        exact GOAL.out 2 none 0 0 d5 _ c5 _ V.out.1 (by rw [V.out.2.1]; rfl) (by rw [V.out.2.2]) (by rw [V.out.2.1]; exact CapR.nil _ _) (by rw [V.out.2.2]; exact K5.out.mono (by omega)) (((L5.out.setCell (by show nb ≤ nb + 1; omega) _).setCell (by show nb ≤ nb + 1; omega) _).setCell (by show nb ≤ nb + 1; omega) _)
  · simp only [if_neg hc] at OF
    have V := hiddenN (sol_bad hc)
    have hcb : (checkN n != 0) = true := by simpa using hc
    clear hc
    have GOAL : Hid (∀ W, Below nb w W → RE (.returned (.tuple #[.agg #[.int .u8 0, .slice none 0 0, .slice none 0 0], .int .i64 (checkN n)])) W) := fun W g3 => by
      rw [← HRE.out]
      refine ⟨none, 0, none, 0, by rw [V.out.1, V.out.2.1, V.out.2.2]; rfl, ?_, ?_, by rw [HNB.out]; exact g3⟩
      · rw [V.out.2.1]; exact CapR.nil _ _
      · rw [V.out.2.2]; exact CapS.nil _ _
    rw [hnb] at XN XB L0
    clear HRE hnb
    generalize checkN n = cd at *
    go_enter Try.func16, Try.ntmps16
    go_upto_region 1 with fail
    generalize (w.alloc (.cells #[.int .i64 n.nodes, .slice a n.arcs.length c] 24)).alloc (.cells #[.int .u8 0, .slice none 0 0, .slice none 0 0] 37) = W0 at *
    rw [HNB.out]
    have y0 := XN.out.cell (k := 0) rfl
    have y1 := XN.out.cell (k := 1) rfl
    simp only [List.getElem_toArray, List.getElem_cons_zero, List.getElem_cons_succ] at y0 y1
    go_wp2_with (go_at_call 31; (with_reducible refine OF.out.mono ?_); rintro e W1 ⟨rfl, b1⟩; have q1 := b1.alloc b1.size (.cells #[.slice none 0 0, .slice none 0 0] 57); have L1 := hiddenN (L0.out.trans (q1.mono (by have := L0.out.size; have := HNB.out; omega))); have Y1 := hiddenN (XB.out.below q1); have z0 := Y1.out.cell (k := 0) rfl; have z1 := Y1.out.cell (k := 1) rfl; have z2 := Y1.out.cell (k := 2) rfl; simp only [List.getElem_toArray, List.getElem_cons_zero, List.getElem_cons_succ] at z0 z1 z2; have f0 := Y1.out.frozen 0; have f1 := Y1.out.frozen 1; have f2 := Y1.out.frozen 2; clear b1 q1)
    refine bodyPost_ret (v := .tuple #[.agg #[.int .u8 0, .slice none 0 0, .slice none 0 0], .int .i64 cd]) (by simp [results, Try.results16, go_sem, z0, z1, z2]) rfl ?_
    exact GOAL.out _ (((L1.out.setCell (by show nb ≤ nb + 1; omega) _).setCell (by show nb ≤ nb + 1; omega) _).setCell (by show nb ≤ nb + 1; omega) _)
def netB1 : NN := ⟨2, [⟨0, 1, 2, 3, 0⟩]⟩
def netB2 : NN := ⟨1, [⟨0, 0, 2, 1, 0⟩]⟩
theorem wakeB1 : checkN netB1 = 0 ∧ vdB netB1 = 1 ∧ rpB netB1 = [3, 2] ∧ cyB netB1 = [] := by decide +kernel
theorem wakeB2 : checkN netB2 = 0 ∧ vdB netB2 = 2 ∧ rpB netB2 = [] ∧ cyB netB2 = [(0, false)] := by decide +kernel
theorem wakeB_at (w : World) (f t g k s : Int) : AtN (w.alloc (.cells #[.int .i64 f, .int .i64 t, .int .i64 g, .int .i64 k, .int .i64 s] 52)) (some ⟨w.heap.size, 0, none⟩) [⟨f, t, g, k, s⟩] := by
  have bx := blkA_new 52 w #[.int .i64 f, .int .i64 t, .int .i64 g, .int .i64 k, .int .i64 s]
  refine .inr ⟨w.heap.size, 0, rfl, fun q hq => ?_⟩
  match q, hq with
  | 0, _ => exact ⟨bx.cell rfl, bx.cell rfl, bx.cell rfl, bx.cell rfl, bx.cell rfl⟩
theorem solveB1 (U : World) (d : Option Addr) (cc : Nat) (h : AtN U d netB1.arcs) : Calls Try.prog 16 #[.agg #[.int .i64 2, .slice d 1 cc]] U fun e w' => ∃ d1 c1 d2 c2, e = .returned (.tuple #[.agg #[.int .u8 1, .slice d1 2 c1, .slice d2 0 c2], .int .i64 0]) ∧ At w' d1 [3, 2] ∧ Below U.heap.size U w' :=
  (solve_any netB1 d cc U h (by decide)).mono fun e w' q => by
    obtain ⟨d1, c1, d2, c2, h1, h2, h3, h4⟩ := q
    rw [wakeB1.1, wakeB1.2.1, wakeB1.2.2.1, wakeB1.2.2.2] at h1
    rw [wakeB1.2.2.1] at h2
    exact ⟨d1, c1, d2, c2, h1, h2.at, h4⟩
theorem solveB2 (U : World) (d : Option Addr) (cc : Nat) (h : AtN U d netB2.arcs) : Calls Try.prog 16 #[.agg #[.int .i64 1, .slice d 1 cc]] U fun e w' => ∃ d1 c1 gb go' c2, e = .returned (.tuple #[.agg #[.int .u8 2, .slice d1 0 c1, .slice (some ⟨gb, go', none⟩) 1 c2], .int .i64 0]) ∧ w'.cell? ⟨gb, go', none⟩ = some (.int .i64 0) ∧ w'.cell? ⟨gb, go' + 1, none⟩ = some (.bool false) ∧ Below U.heap.size U w' :=
  (solve_any netB2 d cc U h (by decide)).mono fun e w' q => by
    obtain ⟨d1, c1, d2, c2, h1, h2, h3, h4⟩ := q
    rw [wakeB2.1, wakeB2.2.1, wakeB2.2.2.1, wakeB2.2.2.2] at h1
    rw [wakeB2.2.2.2] at h3
    rcases h3.at with e | ⟨gb, go', e, hc⟩
    · cases e
    · subst e
      obtain ⟨q0, q1⟩ := hc 0 (by decide)
      exact ⟨d1, c1, gb, go', c2, h1, q0, q1, h4⟩
set_option maxRecDepth 100000 in
set_option maxHeartbeats 8000000 in
theorem awakeB (w : World) : Calls Try.prog 13 #[] w fun e w' => e = .returned (.bool true) ∧ Below w.heap.size w w' := by
  have b1 := (Below.refl w.heap.size w).alloc (Nat.le_refl _) (.cells #[.int .i64 0, .int .i64 1, .int .i64 2, .int .i64 3, .int .i64 0] 52)
  have S1 := hiddenN (solveB1 _ _ 1 (wakeB_at w 0 1 2 3 0))
  have S2 := hiddenN (fun (U : World) => solveB2 _ _ 1 (wakeB_at U 0 0 2 1 0))
  have B1 := hiddenN b1
  have SI : Hid (∀ (U : World) (x y : Option Addr) (cx cy : Nat), At U x [3, 2] → At U y [3, 2] → Calls Try.prog 27 #[.slice x 2 cx, .slice y 2 cy] U fun e w' => e = .returned (.bool true) ∧ Below U.heap.size U w') := fun U x y cx cy h1 h2 => sameN U x y [3, 2] cx cy (by decide) h1 h2
  clear b1
  go_enter Try.func13, Try.ntmps13
  go_upto_region 2 with (go_at_call 16; (with_reducible refine S1.out.mono ?_); rintro e W1 ⟨d1, c1, d2, c2, rfl, q1, b1⟩; have R1 := hiddenN q1; have L1 := hiddenN (B1.out.trans (b1.mono B1.out.size)); clear q1 b1)
  clear S1 B1
  have b2 := (Below.refl W1.heap.size W1).alloc (Nat.le_refl _) (.cells #[.int .u8 1, .slice d1 2 c1, .slice d2 0 c2] 37)
  have X2 := hiddenN (blkA_new 37 W1 #[.int .u8 1, .slice d1 2 c1, .slice d2 0 c2])
  have R2 := hiddenN (R1.out.below b2)
  have L2 := hiddenN (L1.out.trans (b2.mono L1.out.size))
  obtain ⟨xb, hxb⟩ : ∃ q, W1.heap.size = q := ⟨_, rfl⟩
  rw [hxb] at X2 ⊢
  clear b2 R1 L1 hxb
  generalize W1.alloc (.cells #[.int .u8 1, .slice d1 2 c1, .slice d2 0 c2] 37) = W2 at *
  have b3 := hiddenN ((Below.refl W2.heap.size W2).alloc (Nat.le_refl _) (.cells #[.int .i64 0, .int .i64 0, .int .i64 2, .int .i64 1, .int .i64 0] 52))
  go_upto_region 3 with (go_at_call 16; (with_reducible refine (S2.out W2).mono ?_); rintro e W3 ⟨d3, c3, gb, go', c4, rfl, q1, q2, b4⟩; have B4 := hiddenN (b3.out.trans (b4.mono b3.out.size)); have P0 := hiddenN q1; have P1 := hiddenN q2; clear q1 q2 b4)
  clear S2 b3
  have b5 := (Below.refl W3.heap.size W3).alloc (Nat.le_refl _) (.cells #[.int .u8 2, .slice d3 0 c3, .slice (some ⟨gb, go', none⟩) 1 c4] 37)
  have Y5 := hiddenN (blkA_new 37 W3 #[.int .u8 2, .slice d3 0 c3, .slice (some ⟨gb, go', none⟩) 1 c4])
  have X5 := hiddenN ((X2.out.below B4.out).below b5)
  have R5 := hiddenN ((R2.out.below B4.out).below b5)
  have L5 := hiddenN ((L2.out.trans (B4.out.mono L2.out.size)).trans (b5.mono (Nat.le_trans L2.out.size B4.out.size)))
  have Q0 := hiddenN (cellN_later b5 P0.out)
  have Q1 := hiddenN (cellN_later b5 P1.out)
  obtain ⟨yb, hyb⟩ : ∃ q, W3.heap.size = q := ⟨_, rfl⟩
  rw [hyb] at Y5 ⊢
  clear b5 R2 L2 X2 P0 P1 B4 hyb
  generalize W3.alloc (.cells #[.int .u8 2, .slice d3 0 c3, .slice (some ⟨gb, go', none⟩) 1 c4] 37) = W5 at *
  have x0 := X5.out.cell (k := 0) rfl
  have x1 := X5.out.cell (k := 1) rfl
  simp only [List.getElem_toArray, List.getElem_cons_zero, List.getElem_cons_succ] at x0 x1
  have b6 := (Below.refl W5.heap.size W5).alloc (Nat.le_refl _) (.cells #[.int .i64 3, .int .i64 2] 3)
  have Z6 := blkA_new 3 W5 #[.int .i64 3, .int .i64 2]
  have H6 : Hid (At (W5.alloc (.cells #[.int .i64 3, .int .i64 2] 3)) (some ⟨W5.heap.size, 0, none⟩) [3, 2]) := .inr ⟨W5.heap.size, 0, rfl, fun k hk => by
    match k, hk with
    | 0, _ => exact Z6.cell rfl
    | 1, _ => exact Z6.cell rfl⟩
  have R6 := hiddenN (R5.out.below b6)
  have B6 := hiddenN b6
  clear Z6 b6 R5
  go_wp2_with (go_at_call 27; (with_reducible refine (SI.out _ d1 _ c1 2 R6.out H6.out).mono ?_); rintro e W7 ⟨rfl, b7⟩; have q7 := B6.out.trans (b7.mono B6.out.size); have Y7 := hiddenN (Y5.out.below q7); have L7 := hiddenN (L5.out.trans (q7.mono L5.out.size)); have y0 := Y7.out.cell (k := 0) rfl; have y2 := Y7.out.cell (k := 2) rfl; simp only [List.getElem_toArray, List.getElem_cons_zero, List.getElem_cons_succ] at y0 y2; have q0 := cellN_later q7 Q0.out; have q1 := cellN_later q7 Q1.out; clear b7 q7 x0 x1)
  go_ret
  exact ⟨rfl, L7.out⟩
set_option maxRecDepth 100000 in
set_option maxHeartbeats 4000000 in
theorem rsame_any (v : Int) (R : List Int) (C : List (Nat × Bool)) (d1 d2 d3 d4 : Option Addr) (c1 c2 c3 c4 : Nat) (w : World) (h1 : At w d1 R) (h2 : AtS w d2 C) (h3 : At w d3 R) (h4 : AtS w d4 C) (hR : R.length ≤ 1000) (hC : C.length ≤ 1000) :
    Calls Try.prog 17 #[.agg #[.int .u8 v, .slice d1 R.length c1, .slice d2 C.length c2], .agg #[.int .u8 v, .slice d3 R.length c3, .slice d4 C.length c4]] w fun e w' => e = .returned (.bool true) ∧ Below w.heap.size w w' := by
  have b0 := (Below.refl w.heap.size w).alloc (Nat.le_refl _) (.cells #[.int .u8 v, .slice d1 R.length c1, .slice d2 C.length c2] 37)
  have b1 := (Below.refl (w.alloc (.cells #[.int .u8 v, .slice d1 R.length c1, .slice d2 C.length c2] 37)).heap.size (w.alloc (.cells #[.int .u8 v, .slice d1 R.length c1, .slice d2 C.length c2] 37))).alloc (Nat.le_refl _) (.cells #[.int .u8 v, .slice d3 R.length c3, .slice d4 C.length c4] 37)
  have hs0 : (w.alloc (.cells #[.int .u8 v, .slice d1 R.length c1, .slice d2 C.length c2] 37)).heap.size = w.heap.size + 1 := World.size_alloc _ _
  have b2 := b0.trans (b1.mono b0.size)
  have X0 := hiddenN ((blkA_new 37 w #[.int .u8 v, .slice d1 R.length c1, .slice d2 C.length c2]).below b1)
  have Y0 := hiddenN (blkA_new 37 (w.alloc (.cells #[.int .u8 v, .slice d1 R.length c1, .slice d2 C.length c2] 37)) #[.int .u8 v, .slice d3 R.length c3, .slice d4 C.length c4])
  rw [hs0] at Y0
  have L0 := hiddenN b2
  have K1 := hiddenN (h1.below b2)
  have K2 := hiddenN (h2.below b2)
  have K3 := hiddenN (h3.below b2)
  have K4 := hiddenN (h4.below b2)
  have SI := hiddenN (fun (U : World) (g1 : At U d1 R) (g2 : At U d3 R) => sameN U d1 d3 R c1 c3 (by omega) g1 g2)
  have SS := hiddenN (fun (U : World) (g1 : AtS U d2 C) (g2 : AtS U d4 C) => sameS_any C d2 d4 c2 c4 U g1 g2 (by omega))
  have hvv : (v == v) = true := by simp
  clear b0 b1 b2 hs0 h1 h2 h3 h4
  go_enter Try.func17, Try.ntmps17
  go_upto_region 1 with fail
  generalize (w.alloc (.cells #[.int .u8 v, .slice d1 R.length c1, .slice d2 C.length c2] 37)).alloc (.cells #[.int .u8 v, .slice d3 R.length c3, .slice d4 C.length c4] 37) = W0 at *
  have x0 := X0.out.cell (k := 0) rfl
  have x1 := X0.out.cell (k := 1) rfl
  have y0 := Y0.out.cell (k := 0) rfl
  have y1 := Y0.out.cell (k := 1) rfl
  simp only [List.getElem_toArray, List.getElem_cons_zero, List.getElem_cons_succ] at x0 x1 y0 y1
  go_wp2_with (first
    | (go_at_call 34; (with_reducible refine (SS.out _ (K2.out.below B1.out) (K4.out.below B1.out)).mono ?_); rintro e W2 ⟨rfl, b2⟩; have L2 := hiddenN (L0.out.trans ((B1.out.trans (b2.mono B1.out.size)).mono L0.out.size)); clear b2)
    | (go_at_call 27; (with_reducible refine (SI.out _ K1.out K3.out).mono ?_); rintro e W1 ⟨rfl, b1⟩; have B1 := hiddenN b1; have x2 := (X0.out.below b1).cell (k := 2) rfl; have y2 := (Y0.out.below b1).cell (k := 2) rfl; simp only [List.getElem_toArray, List.getElem_cons_zero, List.getElem_cons_succ] at x2 y2; clear b1 x0 x1 y0 y1))
  go_ret
  exact ⟨rfl, L2.out⟩
/-! ### Tokens at the start -/
@[reducible] def okS (zs : List Int) (j : Nat) : Prop := j < zs.length ∧ 0 ≤ nth zs j ∧ nth zs j ≤ 256
theorem sol_few (n : NN) : (rpB n).length ≤ 100 ∧ (cyB n).length ≤ 100 := by
  by_cases hc : checkN n = 0
  · cases hb : bigA n with
    | true => obtain ⟨-, e1, e2⟩ := sol_big hc hb; rw [e1, e2]; exact ⟨by decide, by decide⟩
    | false =>
      cases hf : fuB n.arcs (cnt n) with
      | none =>
        obtain ⟨-, e1, e2⟩ := sol_even hc hb hf
        rw [e1, e2, rowF_len]
        have := (check_sound hc).nodes
        exact ⟨by omega, by decide⟩
      | some i =>
        obtain ⟨-, e1, e2⟩ := sol_odd hc hb hf
        rw [e1, e2]
        have := pathP_len n (nthNa n.arcs i).t (nthNa n.arcs i).f
        refine ⟨by decide, ?_⟩
        unfold cycB
        simp
        omega
  · obtain ⟨-, e1, e2⟩ := sol_bad hc
    rw [e1, e2]
    exact ⟨by decide, by decide⟩
end Go.Proofs.Ytecmkienoofccaa
