/- Texts of one chain, laid one behind the other. -/
import Derived.Test.YtkkccomdclklhaaPartSimulHome28
namespace Go.Proofs.Ytkkccomdclklhaa
open Go.ChangeShapes Go.WideShapes Go.ChangeAt Go.RowKit
def CnU (n : NN) (lT : Nat) (u : World) (z : Value) : Prop := ∃ ac cc, z = .slice ac lT cc ∧ At u ac (startT n)
theorem fires_noF (n : NN) : ∀ (zs T F F' : List Int), (firesN n zs T F).1 = (firesN n zs T F').1 ∧ (firesN n zs T F).2.1 = (firesN n zs T F').2.1
  | [], _, _, _ => ⟨rfl, rfl⟩
  | v :: zs, T, F, F' => by
    unfold firesN
    by_cases h : mayN n T v = true
    · rw [if_pos h, if_pos h]
      have := fires_noF n zs (fireN n T v) (bumpF F v) (bumpF F' v)
      exact ⟨by show _ + 1 = _ + 1; rw [this.1], this.2⟩
    · rw [if_neg h, if_neg h]; exact ⟨rfl, rfl⟩
theorem home_T {n : NN} {R P : List Int} (h : FinU n R P) (hb : bloU n R P = []) : (finU n R P).2.1 = startT n := by
  have e := (blo_nil h).1 hb
  refine list_eq (by rw [h.eq.few.len]; unfold startT; rw [List.length_map]) fun i hi => ?_
  rw [h.eq.few.len] at hi
  rw [h.eq.eq i hi, e, start_nth hi, h.good.bal i hi]
  omega
theorem home_fires {n : NN} {R P : List Int} (h : FinU n R P) (hb : bloU n R P = []) (F : List Int) : (firesN n (finU n R P).1 (startT n) F).1 = (finU n R P).1.length ∧ (firesN n (finU n R P).1 (startT n) F).2.1 = startT n := by
  have e := fires_noF n (finU n R P).1 (startT n) F (List.replicate n.nodes.toNat 0)
  rw [h.fires] at e
  exact ⟨e.1, by rw [e.2]; exact home_T h hb⟩
theorem short_in {n : NN} {T : List Int} {v : Int} (hS : SoundN n) : -1 ≤ shortN n T v ∧ shortN n T v ≤ 96 := by
  have hm := hS.most
  by_cases hv : nodeB n v = true
  · cases hy : mayN n T v with
    | false =>
      obtain ⟨i, h1, h2, -, -⟩ := short_lack hv hy
      rw [h1]; omega
    | true =>
      unfold mayN at hy
      rw [hv, Bool.true_and, decide_eq_true_iff] at hy
      unfold shortN
      rw [if_pos hv, hy]
      omega
  · unfold shortN; rw [if_neg hv]; omega
theorem blo_in {n : NN} {R P : List Int} (h : FinU n R P) : ∀ b ∈ bloU n R P, InK b := fun b hb => by
  obtain ⟨v, hv, hl, rfl⟩ := blkU_mem hb
  have h1 := h.eq.fs v hv
  have hn := nodes_nat h.sound
  have h2 := h.good.win v (by rw [h.good.len]; exact hv)
  have h3 := short_in (n := n) (T := (finU n R P).2.1) (v := (v : Int)) h.sound
  unfold InK
  simp only
  omega
set_option maxRecDepth 100000 in
set_option maxHeartbeats 16000000 in
theorem simulHome_walk (n : NN) (a : Option Addr) (c : Nat) (a1 : Option Addr) (len1 cap1 : Nat) (R : List Int) (a2 : Option Addr) (len2 cap2 : Nat) (P : List Int) (w : World) (h : ArgN w a c n) (h1 : Arg w a1 len1 cap1 R) (h2 : Arg w a2 len2 cap2 P) : Calls Try.prog 3 #[.agg #[.int .i64 n.nodes, .slice a n.arcs.length c], .slice a1 len1 cap1, .slice a2 len2 cap2] w fun e w' => e = .returned (.bool true) ∧ Below w.heap.size w w' := by
  have e1 := h1.size
  have e2 := h2.size
  subst e1
  subst e2
  have hroom : n.arcs.length ≤ 4611686018427387904 := by have := h.room; omega
  have hR1 : R.length ≤ 4611686018427387904 := by have := h1.reach; omega
  have hP1 : P.length ≤ 4611686018427387904 := by have := h2.reach; omega
  have SR : Hid (∀ (Q : List Int) (q : Option Addr) (qc : Nat) (U : World), Below w.heap.size w U → At U q Q → Q.length ≤ 4611686018427387904 → Calls Try.prog 8 #[.agg #[.int .i64 n.nodes, .slice a n.arcs.length c], .slice a1 R.length cap1, .slice q Q.length qc] U (RunE n R Q U)) := fun Q q qc U hU hq hQ => simRun_any n a c R a1 cap1 Q q qc U (h.lies.below hU) hroom h.none (h1.lies.below hU) hR1 h1.none hq hQ
  have AW := hiddenN awake15
  have b0 := (Below.refl w.heap.size w).alloc (Nat.le_refl _) (.cells #[.int .i64 n.nodes, .slice a n.arcs.length c] 24)
  have X0 := hiddenN (blkA_new 24 w #[.int .i64 n.nodes, .slice a n.arcs.length c])
  have B0 := hiddenN b0
  have HA := hiddenN (h.lies.below b0)
  have HR := hiddenN (h1.lies.below b0)
  have HP := hiddenN (h2.lies.below b0)
  have S1 : Hid (∀ U, Below w.heap.size w U → Calls Try.prog 8 #[.agg #[.int .i64 n.nodes, .slice a n.arcs.length c], .slice a1 R.length cap1, .slice a2 P.length cap2] U (RunE n R P U)) := fun U hU => SR.out P a2 cap2 U hU (h2.lies.below hU) hP1
  have NW := hiddenN (fun hc U hU => newS_yes n a c w h hc U hU)
  have HR0 := hiddenN h1.lies
  have HA0 := hiddenN h.lies
  have y0 := X0.out.cell (k := 0) rfl
  have y1 := X0.out.cell (k := 1) rfl
  simp only [List.getElem_toArray, List.getElem_cons_zero, List.getElem_cons_succ] at y0 y1
  unfold RunE at S1
  obtain ⟨x, hx⟩ : ∃ x, errU n R P = x := ⟨_, rfl⟩
  have HX := hiddenN hx
  rw [hx] at S1
  generalize hl1 : (lisU n R P).length = l1 at *
  generalize hl2 : (stkU n R P).length = l2 at *
  have T1 := hiddenN hl1
  have T2 := hiddenN hl2
  clear b0 h h1 h2 hx SR HA HR HP hl1 hl2
  go_enter Try.func3, Try.ntmps3
  go_upto_region 1 with fail
  generalize (w.alloc (.cells #[.int .i64 n.nodes, .slice a n.arcs.length c] 24)) = W0 at *
  go_upto_region 2 with (go_at_call 8; (with_reducible refine (S1.out W0 B0.out).mono ?_); rintro e W1 ⟨d1, c1, d2, c2, rfl, hd1, hd2, b1⟩; have L1 := hiddenN (B0.out.trans (b1.mono B0.out.size)); have N1 := hiddenN (X0.out.below b1); have D1 := hiddenN hd1.at; have D2 := hiddenN hd2.at; clear b1 hd1 hd2)
  have b2 := (Below.refl W1.heap.size W1).alloc (Nat.le_refl _) (.cells #[.slice d1 l1 c1, .slice d2 l2 c2] 28)
  have X2 := hiddenN (blkA_new 28 W1 #[.slice d1 l1 c1, .slice d2 l2 c2])
  have L2 := hiddenN (L1.out.trans (b2.mono L1.out.size))
  have N2 := hiddenN (N1.out.below b2)
  have E1 := hiddenN (D1.out.below b2)
  have E2 := hiddenN (D2.out.below b2)
  obtain ⟨x1, hx1⟩ : ∃ q, W1.heap.size = q := ⟨_, rfl⟩
  rw [hx1] at X2 ⊢
  clear b2 y0 y1 L1 N1 S1 X0 B0 hx1 D1 D2
  generalize W1.alloc (.cells #[.slice d1 l1 c1, .slice d2 l2 c2] 28) = W2 at *
  by_cases he : x = 0
  · subst he
    have hf := fin_of HX.out
    have hg := hf.good
    have hS := hf.sound
    have hnn := nodes_nat hS
    have hRl := hg.len
    have hmost := hS.most
    have y0 := N2.out.cell (k := 0) rfl
    have y1 := N2.out.cell (k := 1) rfl
    simp only [List.getElem_toArray, List.getElem_cons_zero, List.getElem_cons_succ] at y0 y1
    have NW2 := hiddenN (NW.out hg.check W2 L2.out)
    obtain ⟨N, hN⟩ : ∃ N : Nat, n.nodes = (N : Int) := ⟨n.nodes.toNat, by omega⟩
    have HNN := hiddenN hN
    have HNt : Hid (n.nodes.toNat = N) := by show _ = _; omega
    have hN1 : 1 ≤ N ∧ N ≤ 32 := by omega
    have HRl : Hid (R.length = N) := by show _ = _; omega
    have HF := hiddenN hf
    have HC := hiddenN hg.check
    have OR := hiddenN (lis_or HX.out)
    rw [HRl.out]
    rw [hN] at y0 NW2 ⊢
    clear NW hf hg hS hnn hN hRl
    go_upto_region 5 with (go_at_call 10; (with_reducible refine NW2.out.mono ?_); rintro e W3 ⟨K, E, rfl, s3, b3⟩; have S3 := hiddenN s3; have B3 := hiddenN b3; clear s3 b3)
    obtain ⟨B, hB⟩ : ∃ q, W2.heap.size = q := ⟨_, rfl⟩
    have HB := hiddenN hB
    have X3 := hiddenN (X2.out.below B3.out)
    have N3 := hiddenN (N2.out.below B3.out)
    have L3 := hiddenN (L2.out.trans (B3.out.mono L2.out.size))
    have G1 := hiddenN (E1.out.below B3.out)
    have G2 := hiddenN (E2.out.below B3.out)
    have hxB : x1 < B := by rw [← hB]; exact X2.out.lt
    have hwB : w.heap.size ≤ B := by rw [← hB]; exact L2.out.size
    have HE1 := hiddenN E1.out
    rw [hB] at S3 B3
    clear NW2 y0 y1 X2 N2 E1 E2
    have y0 := N3.out.cell (k := 0) rfl
    have y1 := N3.out.cell (k := 1) rfl
    have z0 := X3.out.cell (k := 0) rfl
    have z1 := X3.out.cell (k := 1) rfl
    simp only [List.getElem_toArray, List.getElem_cons_zero, List.getElem_cons_succ] at y0 y1 z0 z1
    rw [HNN.out] at y0
    have hNN : ((N : Int) != (N : Int)) = false := by simp
    rcases OR.out with ⟨o1, o2, o3⟩ | ⟨o1, o2, o3, o4⟩
    · have hl1 : l1 = 0 := by rw [← T1.out, o1]; rfl
      have hl2 : 0 < l2 := by rw [← T2.out]; exact List.length_pos_iff.2 o2
      subst hl1
      have hl2b : ((l2 : Int) == 0) = false := by simp; omega
      have hl2n : (l2 == 0) = false := by simp; omega
      have hl2I : (0 : Int) < (l2 : Int) := by omega
      have hl2g : (l2 : Int) > 0 := hl2I
      have hl2m : l2 ≤ 32 := by have := T2.out; rw [o3] at this; have h2 := blkU_len n R (finU n R P).2.1 (finU n R P).2.2 n.nodes.toNat; unfold bloU at this; have := HNt.out; omega
      have CF : Hid (∀ U, Below W3.heap.size W3 U → Calls Try.prog 11 #[.agg #[.int .i64 (N : Int), .slice a n.arcs.length c], .slice d2 l2 c2] U (ConE U 0)) := fun U hU => by
        have hK := blk_con HC.out HF.out.good.bal HF.out.eq HF.out.fin (fun k hk => (HF.out.good.win k (by rw [HF.out.good.len]; exact hk)).2) (by rw [o3] at o2; exact o2)
        have q := confirm_any n a c (stkU n R P) d2 l2 c2 U (HA0.out.below (L3.out.trans (hU.mono L3.out.size))) hroom T2.out (by have := T2.out; rw [o3] at this; have h2 := blkU_len n R (finU n R P).2.1 (finU n R P).2.2 n.nodes.toNat; unfold bloU at this; have := HNt.out; omega) (G2.out.below hU) (by rw [o3]; exact blo_in HF.out)
        rw [o3, show conK n (bloU n R P) = 0 from hK, HNN.out] at q
        exact q
      unfold ConE at CF
      have BM : Hid (∀ k, k < l2 → ∃ (v : Nat) (f s : Int), nthBk (stkU n R P) k = ⟨(v : Int), f, s⟩ ∧ v < N ∧ f < nth R v) := fun k hk => by
        have hm := nthBk_mem (L := stkU n R P) (i := k) (by rw [T2.out]; exact hk)
        rw [o3] at hm
        obtain ⟨v, hv, hl, e⟩ := blkU_mem hm
        exact ⟨v, _, _, by rw [o3]; exact e, by rw [← HNt.out]; exact hv, hl⟩
      clear OR o1 o2 o3 S3 B3
      go_upto_region 9 with fail
      go_loopg [11] l2 (fun gk u wr => ∃ k : Nat, k ≤ l2 ∧ gk = l2 - k ∧ u = .int .i64 (k : Int) ∧ Below W3.heap.size W3 wr)
      case atStart => exact ⟨0, Nat.zero_le _, rfl, rfl, Below.refl _ _⟩
      case round =>
        obtain ⟨k, hk, rfl, rfl, hbw⟩ := hrel
        have BW := hiddenN hbw
        clear hbw
        have z1 := (X3.out.below BW.out).cell (k := 1) rfl
        have y0 := (N3.out.below BW.out).cell (k := 0) rfl
        have y1 := (N3.out.below BW.out).cell (k := 1) rfl
        simp only [List.getElem_toArray, List.getElem_cons_zero, List.getElem_cons_succ] at z1 y0 y1
        rw [HNN.out] at y0
        by_cases hlt : k < l2
        · have hkI : (k : Int) < (l2 : Int) := by omega
          obtain ⟨v, f, s, eb, hv, hfl⟩ := BM.out k hlt
          rcases G2.out.below BW.out with e | ⟨kb, ko, rfl, hck⟩
          · have := T2.out; rw [e] at this; simp at this; omega
          obtain ⟨g0, g1, g2⟩ := hck k (by rw [T2.out]; exact hlt)
          rw [eb] at g0 g1 g2
          simp only at g0 g1 g2
          rcases HR0.out with e | ⟨rb, ro, eR, hcr⟩
          · have := HRl.out; rw [e] at this; simp at this; omega
          have hvR : v < R.length := by rw [HRl.out]; exact hv
          have hrb : rb < w.heap.size := block_lt_of_cell (hcr v hvR)
          have c2' := cell_block ((L3.out.trans (BW.out.mono L3.out.size)).block _ hrb) (hcr v hvR)
          subst eR
          have hvI : (v : Int) < (N : Int) := by omega
          have hge : ¬ ((N : Int) ≤ (v : Int)) := by omega
          have hgn : ¬ (N ≤ v) := by omega
          clear hck hcr eb g2
          generalize nth R v = y at *
          have hfy : ¬ (y ≤ f) := by omega
          go_upto_region 12 with fail
          go_quiet (fail)
          have hC9 := drewB (Below.refl wr.heap.size wr) nq
          have B9 := hiddenN (BW.out.trans (hC9.mono BW.out.size))
          clear hC9
          go_wp2
          go_roundg (l2 - (k + 1))
          case measure => omega
          case rel => exact ⟨k + 1, by omega, rfl, by go_num, B9.out⟩
        · have ek : k = l2 := by omega
          subst ek
          have LW := hiddenN (L3.out.trans (BW.out.mono L3.out.size))
          go_wp2_with (first
            | (go_at_call 11; (with_reducible refine (CF.out wr BW.out).mono ?_); rintro e W4 ⟨rfl, b4⟩; have L4 := hiddenN (LW.out.trans (b4.mono LW.out.size)); clear b4)
            | (go_at_call 9; (with_reducible refine (AW.out _).mono ?_); rintro e W6 ⟨rfl, bw⟩; have L6 := hiddenN (L4.out.trans (bw.mono L4.out.size)); clear bw))
          go_ret
          exact ⟨by first | rfl | simp, L6.out⟩
    · have hl2 : l2 = 0 := by rw [← T2.out, o2]; rfl
      have hl1 : 0 < l1 := by rw [← T1.out]; exact List.length_pos_iff.2 o1
      subst hl2
      have hl1b : ((l1 : Int) == 0) = false := by simp; omega
      have hl1n : (l1 == 0) = false := by simp; omega
      have hlm : l1 ≤ 2048 := by
        have e1 := HF.out.sum
        have e2 := (blo_nil HF.out).1 o3
        rw [e2] at e1
        have := HF.out.few
        rw [← T1.out, o4]
        omega
      have TA : Hid (∀ U, At U d1 (lisU n R P) → Calls Try.prog 12 #[.int .i64 (N : Int), .slice d1 l1 c1] U fun e w' => ∃ (g c : Nat), e = .returned (.tuple #[.slice (some ⟨g, 0, none⟩) N c, .bool true]) ∧ CapR U.heap.size w' (some ⟨g, 0, none⟩) c R ∧ Below U.heap.size U w') := fun U hU => by
        have q := tally_any n N HNN.out hN1.1 hN1.2 d1 (lisU n R P) c1 U hU (by rw [T1.out]; omega)
        rw [T1.out] at q
        refine q.mono ?_
        rintro e w' ⟨g, c, Y, h1, h2, h3, h4, h5⟩
        rw [lis_nodes] at h1 h4
        have h6 := h4 rfl
        rw [o4, ← HNt.out, fin_bumps HF.out, (blo_nil HF.out).1 o3] at h6
        rw [h6] at h2
        exact ⟨g, c, h1, h2, h5⟩
      obtain ⟨lT, hlT⟩ : ∃ q, (startT n).length = q := ⟨_, rfl⟩
      have hlTm : lT ≤ 96 := by rw [← hlT]; unfold startT; rw [List.length_map]; exact hmost
      have CN : Hid (∀ U F, StE B E U K n (startT n) F → Calls Try.prog 13 #[.pointer (some ⟨K, 0, none⟩)] U fun e w' => ∃ (a : Option Addr) (cap : Nat), e = .returned (.slice a lT cap) ∧ CapR U.heap.size w' a cap (startT n) ∧ Below U.heap.size U w') := fun U F hs => by
        have q := counts_any U K n (startT n) F hs
        unfold RowEndN at q
        rw [hlT] at q
        exact q
      have HFI : Hid (∀ F, (firesN n (lisU n R P) (startT n) F).1 = l1 ∧ (firesN n (lisU n R P) (startT n) F).2.1 = startT n) := fun F => by
        have := home_fires HF.out o3 F
        rw [← o4, T1.out] at this
        exact this
      have SI0 := hiddenN (fun (U : World) (p q : Option Addr) (k1 k2 : Nat) (h1 : At U p (startT n)) (h2 : At U q (startT n)) => sameN U p q (startT n) k1 k2 (by rw [hlT]; omega) h1 h2)
      rw [hlT] at SI0
      have SIR := hiddenN (fun (U : World) (p q : Option Addr) (k1 k2 : Nat) (h1 : At U p R) (h2 : At U q R) => sameN U p q R k1 k2 (by rw [HRl.out]; omega) h1 h2)
      rw [HRl.out] at SIR
      have hd1 : ∀ y, d1 = some y → y.block < B := fun y hy => by rw [← HB.out]; exact at_lt HE1.out (fun e => o1 e) hy
      clear OR o1 o2 o3 o4 HE1
      go_upto_region 16 with (go_at_call 12; (with_reducible refine (TA.out W3 G1.out).mono ?_); rintro e W4 ⟨gt, ct, rfl, ht, b4⟩; have TT := hiddenN ht; have S4 := hiddenN (S3.out.below b4); have L4 := hiddenN (L3.out.trans (b4.mono L3.out.size)); have G4 := hiddenN (G1.out.below b4); have X4 := hiddenN (X3.out.below b4); clear ht b4)
      have hE4 : E ≤ W4.heap.size := S4.out.low.2
      have TT2 := hiddenN (TT.out.mono S3.out.low.2)
      clear TA G1 X3 N3 L3 y0 y1 z0 z1 S3 B3 TT
      go_upto_region 17 with (go_at_call 13; (with_reducible refine (CN.out W4 _ S4.out).mono ?_); rintro e W5 ⟨aS, cS, rfl, hs5, b5⟩; have ST5 := hiddenN (hs5.mono hE4); have S5 := hiddenN (S4.out.below b5); have L5 := hiddenN (L4.out.trans (b5.mono L4.out.size)); have G5 := hiddenN (G4.out.below b5); have X5 := hiddenN (X4.out.below b5); have T5 := hiddenN (TT2.out.later b5); clear hs5 b5)
      clear S4 L4 G4 X4 TT2
      go_upto_region 18 with fail
      go_loopg [16] 3 (fun gk u wr => ∃ (k : Nat) (F : List Int), k ≤ 3 ∧ gk = 3 - k ∧ u = .int .i64 (k : Int) ∧ StE B E wr K n (startT n) F ∧ Mid B E W5 wr)
      case atStart => exact ⟨0, _, by decide, rfl, rfl, S5.out, Mid.refl _ _ _⟩
      case round =>
        obtain ⟨k, F, hk, rfl, rfl, hst, hmd⟩ := hrel
        have S6 := hiddenN hst
        have M6 := hiddenN hmd
        have hBr := hst.low.1
        clear hst hmd
        have X6 := hiddenN (X5.out.keep (M6.out.block _ X5.out.lt (.inl hxB)))
        have G6 := hiddenN (G5.out.keep fun y hy => M6.out.block _ (by have := hd1 y hy; have := S5.out.low.1; omega) (.inl (hd1 y hy)))
        have T6 := hiddenN (T5.out.keep fun y hy => M6.out.block _ (T5.out.lt y hy).2 (.inr (T5.out.lt y hy).1))
        have ST := hiddenN (ST5.out.keep fun y hy => M6.out.block _ (ST5.out.lt y hy).2 (.inr (ST5.out.lt y hy).1))
        have z0 := X6.out.cell (k := 0) rfl
        simp only [List.getElem_toArray, List.getElem_cons_zero] at z0
        have L6 := hiddenN (L5.out.trans ((M6.out.below S5.out.low.1).mono hwB))
        by_cases hlt : k < 3
        · have hkI : (k : Int) < 3 := by omega
          have hlx := X6.out.lt
          have hnx : x1 < B ∨ E ≤ x1 := .inl hxB
          have FI : Hid (∀ (W : World), Below wr.heap.size wr W → Calls Try.prog 14 #[.pointer (some ⟨K, 0, none⟩), .slice d1 l1 c1] W fun e w' => ∃ F2, e = .returned (.int .i64 (l1 : Int)) ∧ StE B E w' K n (startT n) F2 ∧ Mid B E W w') := fun W hW => by
            have q := fires_any W K n (startT n) F (S6.out.below hW) d1 c1 (lisU n R P) (G6.out.below hW) (by rw [T1.out]; omega) (fun y hy _ => .inl (hd1 y hy))
            rw [T1.out, (HFI.out F).1, (HFI.out F).2] at q
            refine q.mono ?_
            rintro e w' ⟨q1, q2, q3⟩
            exact ⟨_, q1, q2, q3⟩
          have CN2 := CN
          have SI : Hid (∀ (W : World) (p : Option Addr) (k1 : Nat), At W p (startT n) → At W aS (startT n) → Calls Try.prog 15 #[.slice p lT k1, .slice aS lT cS] W fun e w' => e = .returned (.bool true) ∧ Below W.heap.size W w') := fun W p k1 h1 h2 => SI0.out W p aS k1 cS h1 h2
          have CN : Hid (∀ U F, StE B E U K n (startT n) F → Calls Try.prog 13 #[.pointer (some ⟨K, 0, none⟩)] U fun e w' => ∃ (a : Option Addr) (cap : Nat), e = .returned (.slice a lT cap) ∧ At w' a (startT n) ∧ Below U.heap.size U w') := fun U F hs => (CN2.out U F hs).mono (by rintro e w' ⟨a', cap, q1, q2, q3⟩; exact ⟨a', cap, q1, q2.at, q3⟩)
          clear CN2
          go_upto_region 20 with fail
          refine wp_region_gen [3] (fun d i u z => match i with
              | 0 => z = .pointer (some ⟨K, 0, none⟩)
              | 1 => z = .pointer (some ⟨x1, 0, none⟩)
              | 2 => z = .slice d1 l1 c1
              | 3 => (d 3 = true ∧ z = .int .i64 (l1 : Int))
              | 4 => z = .pointer (some ⟨x1, 0, none⟩)
              | 5 => z = .slice d1 l1 c1
              | 6 => z = .int .i64 (l1 : Int)
              | 7 => (d 3 = true ∧ z = .bool false)
              | 8 => (d 3 = true ∧ z = .bool false)
              | 9 => z = .pointer (some ⟨K, 0, none⟩)
              | 10 => (d 3 = true ∧ CnU n lT u z)
              | 11 => z = .slice aS lT cS
              | 12 => (d 3 = true ∧ z = .bool true)
              | 13 => (d 3 = true ∧ z = .bool false)
              | 14 => (d 3 = true ∧ z = .bool false)
              | _ => True) (fun d u => (d 3 = false → Below wr.heap.size wr u) ∧ (d 3 = true → ∃ F2, StE B E u K n (startT n) F2) ∧ Mid B E wr u) (by kernel_rfl) (by kernel_rfl) (by kernel_rfl) ?_ ?_ ?_ ?_ ?_ ?_ (by kernel_rfl)
          · intro d i w v w' h hb
            match i, h with
            | 0, h => exact h
            | 1, h => exact h
            | 2, h => exact h
            | 3, h => exact h
            | 4, h => exact h
            | 5, h => exact h
            | 6, h => exact h
            | 7, h => exact h
            | 8, h => exact h
            | 9, h => exact h
            | 10, h => exact ⟨h.1, by obtain ⟨ac, cc, h1, h2⟩ := h.2; exact ⟨ac, cc, h1, h2.below hb⟩⟩
            | 11, h => exact h
            | 12, h => exact h
            | 13, h => exact h
            | 14, h => exact h
            | _ + 15, _ => trivial
          · intro d u u' h hb
            exact ⟨fun e => (h.1 e).trans (hb.mono (h.1 e).size), fun e => by obtain ⟨F2, h1⟩ := h.2.1 e; exact ⟨F2, h1.below hb⟩, h.2.2.trans (Mid.of_below hb)⟩
          · exact ⟨fun _ => Below.refl _ _, fun e => absurd e (by decide), Mid.refl _ _ _⟩
          · intro d i o ρ w' hm ho hf hg hC hcs hfs hfr hdep
            match i, hm, ho, hf, hg, hfr, hdep with
            | 0, _, ho, hf, hg, hfr, hdep =>
              simp only [gTA, gCZ, gSI] at ho
              subst ho
              refine ⟨fun _ => ?_, fun hw => absurd (show true = false from hw) (by decide)⟩
              have ts : ρ (.tmp 9) = .pointer (some ⟨K, 0, none⟩) := hfr 9 (by kernel_rfl)
              simp [go_sem, ts]
              exact ⟨Below.refl _ _, rfl⟩
            | 1, _, ho, hf, hg, hfr, hdep =>
              simp only [gTA, gCZ, gCS, gSI] at ho
              subst ho
              refine ⟨fun _ => ?_, fun hw => absurd (show true = false from hw) (by decide)⟩
              have ts : ρ (.tmp 7) = .pointer (some ⟨x1, 0, none⟩) := hfr 7 (by kernel_rfl)
              simp [go_sem, ts]
              exact ⟨Below.refl _ _, rfl⟩
            | 2, _, ho, hf, hg, hfr, hdep =>
              simp only [gTA, gCZ, gCS, gSI] at ho
              subst ho
              refine ⟨fun _ => ?_, fun hw => absurd (show true = false from hw) (by decide)⟩
              have cc := cell_block (hC.2.2.block _ hlx hnx) z0
              have d0 : ρ (.tmp 129) = .pointer (some ⟨x1, 0, none⟩) := hdep 1 129 (by kernel_rfl) (by kernel_rfl)
              simp [go_sem, d0, cc]
              exact ⟨Below.refl _ _, rfl⟩
            | 3, hm, _, _, _, _, _ => exact absurd hm (by decide)
            | 4, _, ho, hf, hg, hfr, hdep =>
              simp only [gTA, gCZ, gCS, gSI] at ho
              subst ho
              refine ⟨fun _ => ?_, fun hw => absurd (show true = false from hw) (by decide)⟩
              have ts : ρ (.tmp 7) = .pointer (some ⟨x1, 0, none⟩) := hfr 7 (by kernel_rfl)
              simp [go_sem, ts]
              exact ⟨Below.refl _ _, rfl⟩
            | 5, _, ho, hf, hg, hfr, hdep =>
              simp only [gTA, gCZ, gCS, gSI] at ho
              subst ho
              refine ⟨fun _ => ?_, fun hw => absurd (show true = false from hw) (by decide)⟩
              have cc := cell_block (hC.2.2.block _ hlx hnx) z0
              have d0 : ρ (.tmp 132) = .pointer (some ⟨x1, 0, none⟩) := hdep 4 132 (by kernel_rfl) (by kernel_rfl)
              simp [go_sem, d0, cc]
              exact ⟨Below.refl _ _, rfl⟩
            | 6, _, ho, hf, hg, hfr, hdep =>
              simp only [gTA, gCZ, gCS, gSI] at ho
              subst ho
              refine ⟨fun _ => ?_, fun hw => absurd (show true = false from hw) (by decide)⟩
              have d0 : ρ (.tmp 133) = .slice d1 l1 c1 := hdep 5 133 (by kernel_rfl) (by kernel_rfl)
              simp [go_sem, d0]
              exact ⟨Below.refl _ _, rfl⟩
            | 7, _, ho, hf, hg, hfr, hdep =>
              simp only [gTA, gCZ, gCS, gSI] at ho
              subst ho
              refine ⟨fun _ => ?_, fun hw => absurd (show true = false from hw) (by decide)⟩
              obtain ⟨qd, t0⟩ : d 3 = true ∧ ρ (.tmp 131) = .int .i64 (l1 : Int) := hdep 3 131 (by kernel_rfl) (by kernel_rfl)
              have t1 : ρ (.tmp 134) = .int .i64 (l1 : Int) := hdep 6 134 (by kernel_rfl) (by kernel_rfl)
              simp [go_sem, t0, t1]
              exact ⟨Below.refl _ _, qd, rfl⟩
            | 8, _, ho, hf, hg, hfr, hdep =>
              simp only [gTA, gCZ, gCS, gSI] at ho
              subst ho
              refine ⟨fun _ => ?_, fun hw => absurd (show true = false from hw) (by decide)⟩
              obtain ⟨qd, t0⟩ : d 3 = true ∧ ρ (.tmp 135) = .bool false := hdep 7 135 (by kernel_rfl) (by kernel_rfl)
              simp [go_sem, t0]
              exact ⟨Below.refl _ _, qd, rfl⟩
            | 9, _, ho, hf, hg, hfr, hdep =>
              simp only [gTA, gCZ, gCS, gSI] at ho
              subst ho
              have gd : ρ (.tmp 136) = .bool false := (hdep 8 136 (by kernel_rfl) (by kernel_rfl)).2
              refine ⟨fun _ => ?_, fun hw => absurd (show (match ρ (.tmp 136) with | .bool c => c == false | _ => false) = false from hw) (by rw [gd]; decide)⟩
              clear gd
              have ts : ρ (.tmp 9) = .pointer (some ⟨K, 0, none⟩) := hfr 9 (by kernel_rfl)
              simp [go_sem, ts]
              exact ⟨Below.refl _ _, rfl⟩
            | 10, _, ho, hf, hg, hfr, hdep =>
              simp only [gTA, gCZ, gCS, gSI] at ho
              subst ho
              have gd : ρ (.tmp 136) = .bool false := (hdep 8 136 (by kernel_rfl) (by kernel_rfl)).2
              refine ⟨fun _ => ?_, fun hw => absurd (show (match ρ (.tmp 136) with | .bool c => c == false | _ => false) = false from hw) (by rw [gd]; decide)⟩
              clear gd
              have qd : d 3 = true := (hdep 8 136 (by kernel_rfl) (by kernel_rfl)).1
              have t0 : ρ (.tmp 137) = .pointer (some ⟨K, 0, none⟩) := hdep 9 137 (by kernel_rfl) (by kernel_rfl)
              obtain ⟨F2, hs2⟩ := hC.2.1 qd
              have CNw := CN.out w' F2 hs2
              simp [go_sem, t0, hfs]
              exact ⟨rfl, CNw.mono fun e w'' hh => by obtain ⟨ac, cc, h1, h2, h3⟩ := hh; exact ⟨_, h1, h3, qd, ac, cc, rfl, h2⟩⟩
            | 11, _, ho, hf, hg, hfr, hdep =>
              simp only [gTA, gCZ, gCS, gSI] at ho
              subst ho
              have gd : ρ (.tmp 136) = .bool false := (hdep 8 136 (by kernel_rfl) (by kernel_rfl)).2
              refine ⟨fun _ => ?_, fun hw => absurd (show (match ρ (.tmp 136) with | .bool c => c == false | _ => false) = false from hw) (by rw [gd]; decide)⟩
              clear gd
              have ts : ρ (.tmp 15) = .slice aS lT cS := hfr 15 (by kernel_rfl)
              simp [go_sem, ts]
              exact ⟨Below.refl _ _, rfl⟩
            | 12, _, ho, hf, hg, hfr, hdep =>
              simp only [gTA, gCZ, gCS, gSI] at ho
              subst ho
              have gd : ρ (.tmp 136) = .bool false := (hdep 8 136 (by kernel_rfl) (by kernel_rfl)).2
              refine ⟨fun _ => ?_, fun hw => absurd (show (match ρ (.tmp 136) with | .bool c => c == false | _ => false) = false from hw) (by rw [gd]; decide)⟩
              clear gd
              obtain ⟨qd, ac, cc, t0, ht⟩ : d 3 = true ∧ CnU n lT w' (ρ (.tmp 138)) := hdep 10 138 (by kernel_rfl) (by kernel_rfl)
              have t1 : ρ (.tmp 139) = .slice aS lT cS := hdep 11 139 (by kernel_rfl) (by kernel_rfl)
              have SIw := SI.out w' ac cc ht (ST.out.keep fun y hy => hC.2.2.block _ (ST.out.lt y hy).2 (.inr (ST.out.lt y hy).1)).at
              simp [go_sem, t0, t1, hfs]
              exact ⟨rfl, SIw.mono fun e w'' hh => ⟨_, hh.1, hh.2, qd, rfl⟩⟩
            | 13, _, ho, hf, hg, hfr, hdep =>
              simp only [gTA, gCZ, gCS, gSI] at ho
              subst ho
              have gd : ρ (.tmp 136) = .bool false := (hdep 8 136 (by kernel_rfl) (by kernel_rfl)).2
              refine ⟨fun _ => ?_, fun hw => absurd (show (match ρ (.tmp 136) with | .bool c => c == false | _ => false) = false from hw) (by rw [gd]; decide)⟩
              clear gd
              obtain ⟨qd, t0⟩ : d 3 = true ∧ ρ (.tmp 140) = .bool true := hdep 12 140 (by kernel_rfl) (by kernel_rfl)
              simp [go_sem, t0]
              exact ⟨Below.refl _ _, qd, rfl⟩
            | 14, _, ho, hf, hg, hfr, hdep =>
              simp only [gTA, gCZ, gCS, gSI] at ho
              subst ho
              refine ⟨fun _ => ?_, fun hw => absurd (show true = false from hw) (by decide)⟩
              obtain ⟨-, t0⟩ : d 3 = true ∧ ρ (.tmp 136) = .bool false := hdep 8 136 (by kernel_rfl) (by kernel_rfl)
              obtain ⟨qd, t1⟩ : d 3 = true ∧ ρ (.tmp 141) = .bool false := hdep 13 141 (by kernel_rfl) (by kernel_rfl)
              simp [go_sem, t0, t1]
              exact ⟨Below.refl _ _, qd, rfl⟩
            | n + 15, _, ho, _, _, _, _ => simp at ho
          · intro d i o ρ w' hm ho h0 hf hg hC hcs hfs hfr hdep
            match i, hm, ho, h0, hf, hg, hfr, hdep with
            | 0, hm, _, _, _, _, _, _ => exact absurd hm (by decide)
            | 1, hm, _, _, _, _, _, _ => exact absurd hm (by decide)
            | 2, hm, _, _, _, _, _, _ => exact absurd hm (by decide)
            | 3, _, ho, h0, hf, hg, hfr, hdep =>
              simp only [gTA, gCZ, gCS, gSI] at ho
              subst ho
              have t0 : ρ (.tmp 128) = .pointer (some ⟨K, 0, none⟩) := hdep 0 128 (by kernel_rfl) (by kernel_rfl)
              have t1 : ρ (.tmp 130) = .slice d1 l1 c1 := hdep 2 130 (by kernel_rfl) (by kernel_rfl)
              have FIw := FI.out w' (hC.1 h0)
              refine ⟨rfl, ?_⟩
              simp [go_sem, markUpon, t0, t1, hfs]
              refine FIw.mono ?_
              rintro e w'' ⟨F2, rfl, q1, q2⟩
              refine ⟨_, rfl, ⟨fun e => absurd e (by rw [doneAt_eq]; decide), fun _ => ⟨F2, q1⟩, (Mid.of_below (hC.1 h0)).trans q2⟩, ⟨doneAt_eq _ _, rfl⟩, ?_⟩
              intro i t hi hs
              match i, hi, hs with
              | 0, _, hs => exact hs
              | 1, _, hs => exact hs
              | 2, _, hs => exact hs
              | 3, _, hs => exact absurd hs.1 (by rw [h0]; decide)
              | 4, _, hs => exact hs
              | 5, _, hs => exact hs
              | 6, _, hs => exact hs
              | 7, _, hs => exact absurd hs.1 (by rw [h0]; decide)
              | 8, _, hs => exact absurd hs.1 (by rw [h0]; decide)
              | 9, _, hs => exact hs
              | 10, _, hs => exact absurd hs.1 (by rw [h0]; decide)
              | 11, _, hs => exact hs
              | 12, _, hs => exact absurd hs.1 (by rw [h0]; decide)
              | 13, _, hs => exact absurd hs.1 (by rw [h0]; decide)
              | 14, _, hs => exact absurd hs.1 (by rw [h0]; decide)
              | _ + 15, _, _ => trivial
            | 4, hm, _, _, _, _, _, _ => exact absurd hm (by decide)
            | 5, hm, _, _, _, _, _, _ => exact absurd hm (by decide)
            | 6, hm, _, _, _, _, _, _ => exact absurd hm (by decide)
            | 7, hm, _, _, _, _, _, _ => exact absurd hm (by decide)
            | 8, hm, _, _, _, _, _, _ => exact absurd hm (by decide)
            | 9, hm, _, _, _, _, _, _ => exact absurd hm (by decide)
            | 10, hm, _, _, _, _, _, _ => exact absurd hm (by decide)
            | 11, hm, _, _, _, _, _, _ => exact absurd hm (by decide)
            | 12, hm, _, _, _, _, _, _ => exact absurd hm (by decide)
            | 13, hm, _, _, _, _, _, _ => exact absurd hm (by decide)
            | 14, hm, _, _, _, _, _, _ => exact absurd hm (by decide)
            | n + 15, _, ho, _, _, _, _, _ => simp at ho
          · intro U2 W9 hC9 hS
            have e14 : U2 14 = .bool false := (hS 14 (by decide) (by intro h; cases h)).2
            simp only [puts, e14]
            simp only [Act.put, List.setIfInBounds_toArray, List.set_cons_zero, List.set_cons_succ]
            clear hS e14
            obtain ⟨F2, s9⟩ := hC9.2.1 rfl
            have S9 := hiddenN s9
            have M9 := hiddenN (M6.out.trans hC9.2.2)
            clear s9 hC9
            go_wp2
            go_roundg (3 - (k + 1))
            case measure => omega
            case rel => exact ⟨k + 1, F2, by omega, rfl, by go_num, S9.out, M9.out⟩
        · have ek : k = 3 := by omega
          subst ek
          have SR2 := hiddenN (SIR.out wr (some ⟨gt, 0, none⟩) a1 ct cap1 T6.out.at (HR0.out.below L6.out))
          go_wp2_with (first
            | (go_at_call 15; (with_reducible refine SR2.out.mono ?_); rintro e W7 ⟨rfl, b7⟩; have L7 := hiddenN (L6.out.trans (b7.mono L6.out.size)); clear b7)
            | (go_at_call 9; (with_reducible refine (AW.out _).mono ?_); rintro e W8 ⟨rfl, bw⟩; have L8 := hiddenN (L7.out.trans (bw.mono L7.out.size)); clear bw))
          go_ret
          exact ⟨by first | rfl | simp, L8.out⟩
  · have hne : (x != 0) = true := by simpa using he
    have hl1 : l1 = 0 := by rw [← T1.out]; unfold lisU; rw [if_neg (by rw [HX.out]; exact he)]; rfl
    have hl2 : l2 = 0 := by rw [← T2.out]; unfold stkU; rw [if_neg (by rw [HX.out]; exact he)]; rfl
    subst hl1
    subst hl2
    clear NW
    have z0 := X2.out.cell (k := 0) rfl
    have z1 := X2.out.cell (k := 1) rfl
    simp only [List.getElem_toArray, List.getElem_cons_zero, List.getElem_cons_succ] at z0 z1
    go_wp2_with (go_at_call 9; (with_reducible refine (AW.out _).mono ?_); rintro e W6 ⟨rfl, bw⟩; have L6 := hiddenN (L2.out.trans (bw.mono L2.out.size)); clear bw)
    go_ret
    exact ⟨by first | rfl | simp, L6.out⟩
end Go.Proofs.Ytkkccomdclklhaa
