/- Texts of one chain, laid one behind the other. -/
import Derived.Test.YtdifaobfomfieaaPartWitnessProducts25
import Derived.Test.YtdifaobfomfieaaPartWitnessProducts26
import Derived.Test.YtdifaobfomfieaaPartWitnessProducts7
import Derived.Test.YtdifaobfomfieaaPartWitnessProducts16
import Derived.Test.YtdifaobfomfieaaPartWitnessProducts19
namespace Go.Proofs.Ytdifaobfomfieaa
open Go.ChangeShapes Go.WideShapes Go.ChangeAt Go.RowKit
/-- A box that was laid since. -/
def NewB (B : Nat) (T : TypeId) (cs : Array Value) (u : World) (v : Value) : Prop := ∃ xb, v = .pointer (some ⟨xb, 0, none⟩) ∧ B ≤ xb ∧ BlkA T xb u cs
theorem NewB.later {B : Nat} {T : TypeId} {cs : Array Value} {u u' : World} {v : Value} (h : NewB B T cs u v) (hb : Below u.heap.size u u') : NewB B T cs u' v := by
  obtain ⟨xb, h1, h2, h3⟩ := h
  exact ⟨xb, h1, h2, h3.below hb⟩
theorem Wh.but {w w' : World} {neg : Bool} {a : Option Addr} {len cap : Nat} {ds : List Int} {n : Int} {xb : Nat} {T : TypeId} {m : Bool} {sa : Option Addr} {sl sc : Nat} (h : Wh w neg a len cap ds n) (hX : BlkA T xb w #[.bool m, .slice sa sl sc]) (hB : But xb w w') : Wh w' neg a len cap ds n := by
  have hat : At w' a ds := by
    rcases h.row.lies with e | ⟨b, off, e, hc⟩
    · exact .inl e
    · refine .inr ⟨b, off, e, fun k hk => ?_⟩
      have c0 := hc k hk
      have hlt := block_lt_of_cell c0
      have hne : b ≠ xb := fun e => by
        subst e
        unfold BlkA at hX
        simp only [World.cell?, hX] at c0
        match off + k, c0 with
        | 0, c0 => simp at c0
        | 1, c0 => simp at c0
        | i + 2, c0 => simp at c0
      have hbk : w'.heap[b]? = w.heap[b]? := hB.block b hlt hne
      rw [← c0]
      exact World.cell?_of_block (w := w) hbk
  exact ⟨⟨h.row.size, hat, h.row.none, h.row.room, h.row.short, h.row.dig⟩, h.norm, h.worth, h.sign⟩
set_option maxRecDepth 100000 in
set_option maxHeartbeats 16000000 in
theorem rproducts_any (n : NN) (a : Option Addr) (c : Nat) (L : List (Int × Bool)) (la : Option Addr) (lc : Nat) (w : World) (ha : AtN w a n.arcs) (hln : n.arcs.length ≤ 4611686018427387904) (hl : AtT w la L) (hN : L.length ≤ 4611686018427387904) :
    Calls Try.prog 8 #[.agg #[.int .i64 n.nodes, .slice a n.arcs.length c], .slice la L.length lc] w (ProE w n L) := by
  have b0 := (Below.refl w.heap.size w).alloc (Nat.le_refl _) (.cells #[.int .i64 n.nodes, .slice a n.arcs.length c] 24)
  have X0 := hiddenN (blkA_new 24 w #[.int .i64 n.nodes, .slice a n.arcs.length c])
  have B0 := hiddenN b0
  have HA := hiddenN (ha.below b0)
  have HL := hiddenN (hl.below b0)
  have CH := hiddenN (rcheck10_any n a c _ (ha.below b0) hln)
  have y0 := X0.out.cell (k := 0) rfl
  have y1 := X0.out.cell (k := 1) rfl
  simp only [List.getElem_toArray, List.getElem_cons_zero, List.getElem_cons_succ] at y0 y1
  clear b0 ha hl
  obtain ⟨RE, hRE⟩ : ∃ R, ProE w n L = R := ⟨_, rfl⟩
  rw [hRE]
  have HRE := hiddenN hRE
  obtain ⟨E, hE⟩ : ∃ E, proW n L = E := ⟨_, rfl⟩
  have HE := hiddenN hE
  unfold proW at hE
  clear hRE
  by_cases hc : checkN n = 0
  case neg =>
    rw [if_neg hc] at hE
    have hne : (checkN n != 0) = true := by simpa using hc
    rw [hE] at CH hne hc
    clear hE
    generalize L.length = N at *
    go_enter Try.func8, Try.ntmps8
    go_upto_region 1 with fail
    generalize w.alloc (.cells #[.int .i64 n.nodes, .slice a n.arcs.length c] 24) = W0 at *
    go_wp2_with (go_at_call 21; (with_reducible refine CH.out.mono ?_); rintro e V1 ⟨rfl, q1⟩; have L1 := hiddenN (B0.out.trans (q1.mono B0.out.size)); clear q1)
    rw [← HRE.out]
    exact pro_no HE.out hc L1.out
  rw [if_pos hc] at hE
  rw [hc] at CH
  by_cases hlong : 96 < L.length
  · rw [if_pos hlong] at hE
    subst hE
    have hi : (96 : Int) < (L.length : Int) := by omega
    generalize L.length = N at *
    go_enter Try.func8, Try.ntmps8
    go_upto_region 1 with fail
    generalize w.alloc (.cells #[.int .i64 n.nodes, .slice a n.arcs.length c] 24) = W0 at *
    go_wp2_with (go_at_call 21; (with_reducible refine CH.out.mono ?_); rintro e V1 ⟨rfl, q1⟩; have L1 := hiddenN (B0.out.trans (q1.mono B0.out.size)); clear q1)
    rw [← HRE.out]
    exact pro_no HE.out (by decide) L1.out
  rw [if_neg hlong] at hE
  have HNM := hiddenN hE
  clear hE
  have hi : ¬ (96 : Int) < (L.length : Int) := by omega
  have hN96 : L.length ≤ 96 := by omega
  obtain ⟨N, hLN⟩ : ∃ N, L.length = N := ⟨_, rfl⟩
  have HLN := hiddenN hLN
  rw [hLN] at hi hN96 ⊢
  clear hLN hlong hN hc
  go_enter Try.func8, Try.ntmps8
  go_upto_region 1 with fail
  generalize w.alloc (.cells #[.int .i64 n.nodes, .slice a n.arcs.length c] 24) = W0 at *
  go_upto_region 8 with (go_at_call 21; (with_reducible refine CH.out.mono ?_); rintro e V1 ⟨rfl, q1⟩; have C1 := hiddenN q1; have L1 := hiddenN (B0.out.trans (q1.mono B0.out.size)); clear q1)
  clear CH y0 y1
  obtain ⟨B, hB⟩ : ∃ B, W0.heap.size = B := ⟨_, rfl⟩
  have HB := hiddenN hB
  rw [hB] at C1
  clear hB
  go_wp2
  go_loopg [8, 9, 10] N (fun gk u8 u9 u10 wr => ∃ (k : Nat) (d1 : Option Addr) (c1 : Nat) (d2 : Option Addr) (c2 : Nat), k ≤ N ∧ gk = N - k ∧ u8 = .slice d1 (gvW n.arcs (L.take k)).length c1 ∧ u9 = .slice d2 (kpW n.arcs (L.take k)).length c2 ∧ u10 = .int .i64 (k : Int) ∧ TwR B wr d1 c1 (gvW n.arcs (L.take k)) d2 c2 (kpW n.arcs (L.take k)) ∧ Below B W0 wr ∧ ∀ i, i < k → inW n.arcs (nthT L i) = true)
  case atStart => exact ⟨0, none, 0, none, 0, Nat.zero_le _, rfl, rfl, rfl, rfl, TwR.nil _ _, C1.out, fun i hi => absurd hi (Nat.not_lt_zero _)⟩
  case round =>
    obtain ⟨k, d1, c1, d2, c2, hkN, rfl, rfl, rfl, rfl, hT, hBr, hI⟩ := hrel
    have BR := hiddenN hBr
    have T0 := hiddenN hT
    have HI := hiddenN hI
    clear hBr hT hI
    by_cases hlt : k < N
    · have hki : (k : Int) < (N : Int) := by omega
      have hkL : k < L.length := by rw [HLN.out]; exact hlt
      have HT := HLN.out
      have hBw : B ≤ wr.heap.size := by have := BR.out.size; have := HB.out; omega
      have BRW : Hid (Below W0.heap.size W0 wr) := by show Below _ _ _; rw [HB.out]; exact BR.out
      rcases HL.out.below BRW.out with e | ⟨lb, lo, el, hcl⟩
      · rw [e] at HT; simp at HT; omega
      obtain ⟨c0', c1'⟩ := hcl k hkL
      subst el
      clear hcl HT
      have GT := hiddenN (gv_take (A := n.arcs) hkL)
      have HIN0 : Hid (inW n.arcs (nthT L k) = inW n.arcs (nthT L k)) := rfl
      obtain ⟨xx, hxx⟩ : ∃ x, nthT L k = x := ⟨_, rfl⟩
      have HXX := hiddenN hxx
      rw [hxx] at c0' c1' GT
      clear hxx HIN0
      obtain ⟨z, b⟩ := xx
      simp only at c0' c1'
      have XN := hiddenN (X0.out.below BRW.out)
      have y1 := XN.out.cell (k := 1) rfl
      simp only [List.getElem_toArray, List.getElem_cons_zero, List.getElem_cons_succ] at y1
      by_cases h0 : z < 0
      · have HF : Hid (E = 120) := by
          have q := HNM.out
          rw [if_neg (by rw [show nmW n.arcs L = false from all_miss (i := k) hkL (by rw [HXX.out]; unfold inW; simp; omega)]; decide)] at q
          exact q.symm
        go_upto_region 11 with fail
        go_quiet (fail)
        have B2 := hiddenN (BR.out.trans ((drewF wr nq).mono hBw))
        generalize wr.drewN nq = V2 at *
        go_wp2
        rw [← HRE.out]
        exact pro_no (HE.out.trans HF.out) (by decide) (B0.out.trans (B2.out.mono (by have := B0.out.size; have := HB.out; omega)))
      by_cases h1 : (n.arcs.length : Int) ≤ z
      · have HF : Hid (E = 120) := by
          have q := HNM.out
          rw [if_neg (by rw [show nmW n.arcs L = false from all_miss (i := k) hkL (by rw [HXX.out]; unfold inW; simp; omega)]; decide)] at q
          exact q.symm
        go_upto_region 11 with fail
        go_quiet (fail)
        have B2 := hiddenN (BR.out.trans ((drewF wr nq).mono hBw))
        generalize wr.drewN nq = V2 at *
        go_wp2
        rw [← HRE.out]
        exact pro_no (HE.out.trans HF.out) (by decide) (B0.out.trans (B2.out.mono (by have := B0.out.size; have := HB.out; omega)))
      obtain ⟨j, rfl⟩ : ∃ j : Nat, z = (j : Int) := ⟨z.toNat, by omega⟩
      have hjA : j < n.arcs.length := by omega
      have hjI : (j : Int) < (n.arcs.length : Int) := by omega
      have HIN : Hid (inW n.arcs (nthT L k) = true) := by show _ = _; rw [HXX.out]; exact inW_iff.2 ⟨by show (0 : Int) ≤ j; omega, by show (j : Int) < _; omega⟩
      obtain ⟨ab, ao, ea, -, hca⟩ := arcs_at (HA.out.below BRW.out) j hjA
      obtain ⟨a0, a1, a2, a3, a4⟩ := hca j hjA
      have HTK : Hid (tkW n.arcs ((j : Int), b) = if b = true then ⟨(nthNa n.arcs j).t, (nthNa n.arcs j).f, (nthNa n.arcs j).k, (nthNa n.arcs j).g, (nthNa n.arcs j).s⟩ else nthNa n.arcs j) := rfl
      rw [HTK.out] at GT
      clear hca HTK
      generalize nthNa n.arcs j = PP at *
      obtain ⟨qf, qt, qg, qk, qs⟩ := PP
      simp only at a0 a1 a2 a3 a4 GT
      have hl1 : (gvW n.arcs (L.take k)).length ≤ 1000 := by rw [gv_len, List.length_take]; omega
      have hl2 : (kpW n.arcs (L.take k)).length ≤ 1000 := by rw [kp_len, List.length_take]; omega
      have GT1 := hiddenN GT.out.1
      have GT2 := hiddenN GT.out.2
      clear GT
      generalize gvW n.arcs (L.take k) = xs at *
      generalize kpW n.arcs (L.take k) = ys at *
      subst ea
      go_upto_region 11 with fail
      go_quiet (fail)
      have B2 := hiddenN (BR.out.trans ((drewF wr nq).mono hBw))
      have T2 := hiddenN (T0.out.later (drewF wr nq))
      have hB2 : B ≤ (wr.drewN nq).heap.size := hBw
      have y1' := cellN_later (drewF wr nq) y1
      have e0 := cellN_later (drewF wr nq) c0'
      have e1 := cellN_later (drewF wr nq) c1'
      have f0 := cellN_later (drewF wr nq) a0
      have f1 := cellN_later (drewF wr nq) a1
      have f2 := cellN_later (drewF wr nq) a2
      have f3 := cellN_later (drewF wr nq) a3
      have f4 := cellN_later (drewF wr nq) a4
      clear y1 c0' c1' a0 a1 a2 a3 a4 XN T0
      generalize wr.drewN nq = V2 at *
      go_upto_region 13 with fail
      refine wp_region_said 10 (fun i u v => match i with
          | 0 => v = .pointer (some ⟨w.heap.size, 1, none⟩)
          | 1 => v = .slice (some ⟨ab, ao, none⟩) n.arcs.length c
          | 2 => v = .slice (some ⟨lb, lo, none⟩) N lc
          | 3 => v = .int .i64 (k : Int)
          | 4 => v = .pointer (some ⟨lb, lo + k * 2, none⟩)
          | 5 => v = .pointer (some ⟨lb, lo + k * 2, none⟩)
          | 6 => v = .int .i64 (j : Int)
          | 7 => v = .pointer (some ⟨ab, ao + j * 5, none⟩)
          | 8 => v = .agg #[.int .i64 qf, .int .i64 qt, .int .i64 qg, .int .i64 qk, .int .i64 qs]
          | 9 => NewB V2.heap.size 46 #[.int .i64 0, .int .i64 0, .int .i64 0, .int .i64 0, .int .i64 0] u v
          | _ => True) (by kernel_rfl) (by kernel_rfl) (by kernel_rfl) (by kernel_rfl) ?_ ?_ ?_
      · intro i w v w' h hb
        match i, h with
        | 0, h => exact h
        | 1, h => exact h
        | 2, h => exact h
        | 3, h => exact h
        | 4, h => exact h
        | 5, h => exact h
        | 6, h => exact h
        | 7, h => exact h
        | 8, h => exact h
        | 9, h => exact h.later hb
        | _ + 10, _ => trivial
      · intro i o ρ w' hi ho hb hc hf hfr hdep
        have k1 := cellN_later hb y1'
        have k2 := cellN_later hb e0
        have g0 := cellN_later hb f0
        have g1 := cellN_later hb f1
        have g2 := cellN_later hb f2
        have g3 := cellN_later hb f3
        have g4 := cellN_later hb f4
        match i, hi with
        | 0, _ =>
          simp only [gTA, gCZ, gSI] at ho
          subst ho
          have ts : ρ (.tmp 2) = .pointer (some ⟨w.heap.size, 0, none⟩) := hfr 2 (by kernel_rfl)
          simp [go_sem, ts]
          exact ⟨Below.refl _ _, rfl⟩
        | 1, _ =>
          simp only [gTA, gCZ, gCS, gSI] at ho
          subst ho
          have ts : ρ (.tmp 43) = .pointer (some ⟨w.heap.size, 1, none⟩) := hdep 0 43 (by kernel_rfl) (by kernel_rfl)
          simp [go_sem, ts, k1]
          exact ⟨Below.refl _ _, rfl⟩
        | 2, _ =>
          simp only [gTA, gCZ, gCS, gSI] at ho
          subst ho
          have ts : ρ (.tmp 1) = .slice (some ⟨lb, lo, none⟩) N lc := hfr 1 (by kernel_rfl)
          simp [go_sem, ts]
          exact ⟨Below.refl _ _, rfl⟩
        | 3, _ =>
          simp only [gTA, gCZ, gCS, gSI] at ho
          subst ho
          have ts : ρ (.tmp 10) = .int .i64 (k : Int) := hfr 10 (by kernel_rfl)
          simp [go_sem, ts]
          exact ⟨Below.refl _ _, rfl⟩
        | 4, _ =>
          simp only [gTA, gCZ, gCS, gSI] at ho
          subst ho
          have t0 : ρ (.tmp 45) = .slice (some ⟨lb, lo, none⟩) N lc := hdep 2 45 (by kernel_rfl) (by kernel_rfl)
          have t1 : ρ (.tmp 46) = .int .i64 (k : Int) := hdep 3 46 (by kernel_rfl) (by kernel_rfl)
          simp [go_sem, t0, t1, hlt]
          exact ⟨Below.refl _ _, rfl⟩
        | 5, _ =>
          simp only [gTA, gCZ, gCS, gSI] at ho
          subst ho
          have ts : ρ (.tmp 47) = .pointer (some ⟨lb, lo + k * 2, none⟩) := hdep 4 47 (by kernel_rfl) (by kernel_rfl)
          simp [go_sem, ts]
          exact ⟨Below.refl _ _, rfl⟩
        | 6, _ =>
          simp only [gTA, gCZ, gCS, gSI] at ho
          subst ho
          have ts : ρ (.tmp 48) = .pointer (some ⟨lb, lo + k * 2, none⟩) := hdep 5 48 (by kernel_rfl) (by kernel_rfl)
          simp [go_sem, ts, k2]
          exact ⟨Below.refl _ _, rfl⟩
        | 7, _ =>
          simp only [gTA, gCZ, gCS, gSI] at ho
          subst ho
          have t0 : ρ (.tmp 44) = .slice (some ⟨ab, ao, none⟩) n.arcs.length c := hdep 1 44 (by kernel_rfl) (by kernel_rfl)
          have t1 : ρ (.tmp 49) = .int .i64 (j : Int) := hdep 6 49 (by kernel_rfl) (by kernel_rfl)
          simp [go_sem, t0, t1, hjA]
          exact ⟨Below.refl _ _, rfl⟩
        | 8, _ =>
          simp only [gTA, gCZ, gCS, gSI] at ho
          subst ho
          have t0 : ρ (.tmp 50) = .pointer (some ⟨ab, ao + j * 5, none⟩) := hdep 7 50 (by kernel_rfl) (by kernel_rfl)
          simp [go_sem, t0, g0, g1, g2, g3, g4]
          exact ⟨Below.refl _ _, rfl⟩
        | 9, _ =>
          simp only [gTA, gCZ, gCS, gSI] at ho
          subst ho
          simp [go_sem]
          exact ⟨(Below.refl _ _).alloc (Nat.le_refl _) _, w'.heap.size, rfl, hb.size, blkA_new 46 w' #[.int .i64 0, .int .i64 0, .int .i64 0, .int .i64 0, .int .i64 0]⟩
      · intro V W9 q9 hS
        have ee0 : V 0 = .pointer (some ⟨w.heap.size, 1, none⟩) := hS 0 (by decide)
        have ee1 : V 1 = .slice (some ⟨ab, ao, none⟩) n.arcs.length c := hS 1 (by decide)
        have e2 : V 2 = .slice (some ⟨lb, lo, none⟩) N lc := hS 2 (by decide)
        have e3 : V 3 = .int .i64 (k : Int) := hS 3 (by decide)
        have e4 : V 4 = .pointer (some ⟨lb, lo + k * 2, none⟩) := hS 4 (by decide)
        have e5 : V 5 = .pointer (some ⟨lb, lo + k * 2, none⟩) := hS 5 (by decide)
        have e6 : V 6 = .int .i64 (j : Int) := hS 6 (by decide)
        have e7 : V 7 = .pointer (some ⟨ab, ao + j * 5, none⟩) := hS 7 (by decide)
        have e8 : V 8 = .agg #[.int .i64 qf, .int .i64 qt, .int .i64 qg, .int .i64 qk, .int .i64 qs] := hS 8 (by decide)
        obtain ⟨tb, e9, hxw, xX⟩ : NewB V2.heap.size 46 #[.int .i64 0, .int .i64 0, .int .i64 0, .int .i64 0, .int .i64 0] W9 (V 9) := hS 9 (by decide)
        simp only [List.drop_succ_cons, List.drop_zero, List.take_succ_cons, List.take_zero, puts, ee0, ee1, e2, e3, e4, e5, e6, e7, e8, e9]
        clear hS ee0 ee1 e2 e3 e4 e5 e6 e7 e8 e9 V
        simp only [Act.put, List.setIfInBounds_toArray, List.set_cons_zero, List.set_cons_succ]
        have XZ := hiddenN xX
        have Q9 := hiddenN q9
        clear xX q9 y1' f0 f1 f2 f3 f4 e0
        go_upto_region 14 with (refine wpList_storeW _ rfl 46 (.tmp 11) (.tmp 51) rfl rfl tb 46 _ _ rfl rfl XZ.out sizArcW rfl rfl ?_; intro V3 hN hU; have XT := hiddenN hN; have U3 := hiddenN hU; clear hN hU)
        have LV := hiddenN (Q9.out.trans (U3.out.below hxw Q9.out.size))
        have T3 := hiddenN (T2.out.later LV.out)
        have BU := hiddenN (B2.out.trans (LV.out.mono hB2))
        have e1' := cellN_later LV.out e1
        have hB3 : B ≤ V3.heap.size := by have := BU.out.size; have := HB.out; omega
        have NE1 : Hid (∀ y, d1 = some y → y.block ≠ tb) := fun y hy => by have := (T2.out.r1.lt y hy).2; omega
        clear XZ Q9 U3 LV T2 B2 e1
        cases b with
        | true =>
          simp only [if_true] at GT1 GT2
          go_upto_region 15 with fail
          have x2 := XT.out.cell (k := 3) rfl
          simp only [List.getElem_toArray, List.getElem_cons_zero, List.getElem_cons_succ] at x2
          have bx := (Below.refl V3.heap.size V3).alloc (Nat.le_refl _) (.cells #[.int .i64 qk] 3)
          have CY := hiddenN ((blkA_new 3 V3 #[.int .i64 qk]).cell (k := 0) rfl)
          have CX := hiddenN (T3.out.later bx)
          have hsX : B ≤ (V3.alloc (.cells #[.int .i64 qk] 3)).heap.size := Nat.le_trans hB3 bx.size
          have BX := hiddenN (BU.out.trans (bx.mono hB3))
          have XTX := hiddenN (XT.out.below bx)
          clear bx T3 BU
          go_upto_region 16 with (at_builtin; refine wpList_appG rfl _ _ rfl B d1 c1 xs rfl CX.out.r1 V3.heap.size qk rfl CY.out (by omega) hsX ?_; intro d9 c9 V4 hG; have GR := hiddenN hG; clear hG)
          have T4 := hiddenN (CX.out.grow GR.out)
          have B4 := hiddenN (BX.out.trans (GR.out.below hsX (fun y hy => (CX.out.r1.lt y hy).1)))
          have XT4 := hiddenN (XTX.out.keep (GR.out.keep tb XTX.out.lt NE1.out))
          have hB4 : B ≤ V4.heap.size := by have := B4.out.size; have := HB.out; omega
          clear GR CX CY BX XTX hsX
          have x3 := XT4.out.cell (k := 2) rfl
          simp only [List.getElem_toArray, List.getElem_cons_zero, List.getElem_cons_succ] at x3
          have bx := (Below.refl V4.heap.size V4).alloc (Nat.le_refl _) (.cells #[.int .i64 qg] 3)
          have CY := hiddenN ((blkA_new 3 V4 #[.int .i64 qg]).cell (k := 0) rfl)
          have CX := hiddenN (T4.out.later bx).swap
          have hsX : B ≤ (V4.alloc (.cells #[.int .i64 qg] 3)).heap.size := Nat.le_trans hB4 bx.size
          have BX := hiddenN (B4.out.trans (bx.mono hB4))
          clear bx T4
          go_wp2_with (at_builtin; refine wpList_appG rfl _ _ rfl B d2 c2 ys rfl CX.out.r1 V4.heap.size qg rfl CY.out (by omega) hsX ?_; intro d8 c8 V5 hG; have GR := hiddenN hG; clear hG)
          have T5 := hiddenN (CX.out.grow GR.out).swap
          have B5 := hiddenN (BX.out.trans (GR.out.below hsX (fun y hy => (CX.out.r1.lt y hy).1)))
          clear GR CX CY BX hsX
          go_roundg (N - (k + 1))
          case measure => omega
          case rel => exact ⟨k + 1, d9, c9, d8, c8, by omega, rfl, by rw [GT1.out, List.length_append]; rfl, by rw [GT2.out, List.length_append]; rfl, by go_num, by rw [GT1.out, GT2.out]; exact T5.out, B5.out, fun i hi => by by_cases e : i = k; (rw [e]; exact HIN.out); exact HI.out i (by omega)⟩
        | false =>
          simp only [Bool.false_eq_true, if_false] at GT1 GT2
          go_upto_region 17 with fail
          have x2 := XT.out.cell (k := 2) rfl
          simp only [List.getElem_toArray, List.getElem_cons_zero, List.getElem_cons_succ] at x2
          have bx := (Below.refl V3.heap.size V3).alloc (Nat.le_refl _) (.cells #[.int .i64 qg] 3)
          have CY := hiddenN ((blkA_new 3 V3 #[.int .i64 qg]).cell (k := 0) rfl)
          have CX := hiddenN (T3.out.later bx)
          have hsX : B ≤ (V3.alloc (.cells #[.int .i64 qg] 3)).heap.size := Nat.le_trans hB3 bx.size
          have BX := hiddenN (BU.out.trans (bx.mono hB3))
          have XTX := hiddenN (XT.out.below bx)
          clear bx T3 BU
          go_upto_region 18 with (at_builtin; refine wpList_appG rfl _ _ rfl B d1 c1 xs rfl CX.out.r1 V3.heap.size qg rfl CY.out (by omega) hsX ?_; intro d9 c9 V4 hG; have GR := hiddenN hG; clear hG)
          have T4 := hiddenN (CX.out.grow GR.out)
          have B4 := hiddenN (BX.out.trans (GR.out.below hsX (fun y hy => (CX.out.r1.lt y hy).1)))
          have XT4 := hiddenN (XTX.out.keep (GR.out.keep tb XTX.out.lt NE1.out))
          have hB4 : B ≤ V4.heap.size := by have := B4.out.size; have := HB.out; omega
          clear GR CX CY BX XTX hsX
          have x3 := XT4.out.cell (k := 3) rfl
          simp only [List.getElem_toArray, List.getElem_cons_zero, List.getElem_cons_succ] at x3
          have bx := (Below.refl V4.heap.size V4).alloc (Nat.le_refl _) (.cells #[.int .i64 qk] 3)
          have CY := hiddenN ((blkA_new 3 V4 #[.int .i64 qk]).cell (k := 0) rfl)
          have CX := hiddenN (T4.out.later bx).swap
          have hsX : B ≤ (V4.alloc (.cells #[.int .i64 qk] 3)).heap.size := Nat.le_trans hB4 bx.size
          have BX := hiddenN (B4.out.trans (bx.mono hB4))
          clear bx T4
          go_wp2_with (at_builtin; refine wpList_appG rfl _ _ rfl B d2 c2 ys rfl CX.out.r1 V4.heap.size qk rfl CY.out (by omega) hsX ?_; intro d8 c8 V5 hG; have GR := hiddenN hG; clear hG)
          have T5 := hiddenN (CX.out.grow GR.out).swap
          have B5 := hiddenN (BX.out.trans (GR.out.below hsX (fun y hy => (CX.out.r1.lt y hy).1)))
          clear GR CX CY BX hsX
          go_roundg (N - (k + 1))
          case measure => omega
          case rel => exact ⟨k + 1, d9, c9, d8, c8, by omega, rfl, by rw [GT1.out, List.length_append]; rfl, by rw [GT2.out, List.length_append]; rfl, by go_num, by rw [GT1.out, GT2.out]; exact T5.out, B5.out, fun i hi => by by_cases e : i = k; (rw [e]; exact HIN.out); exact HI.out i (by omega)⟩
    · have ek : k = N := by omega
      subst ek
      have hki : ¬ (k : Int) < (k : Int) := by omega
      have eL : L.take k = L := by rw [← HLN.out, List.take_length]
      rw [eL] at T0 ⊢
      have HF : Hid (E = 0) := by
        have q := HNM.out
        rw [if_pos (show nmW n.arcs L = true from all_range.2 fun i hi => HI.out i (by rw [HLN.out] at hi; exact hi))] at q
        exact q.symm
      go_wp2
      rw [← HRE.out]
      have hs : w.heap.size ≤ B := by have := B0.out.size; have := HB.out; omega
      refine ⟨d1, c1, d2, c2, ?_, ?_, B0.out.trans (BR.out.mono hs)⟩
      · rw [HE.out, HF.out, if_pos rfl, if_pos rfl]
      · rw [HE.out, HF.out, if_pos rfl, if_pos rfl]
        exact ⟨T0.out.r1.mono hs, T0.out.r2.mono hs, T0.out.ne⟩
def outG (n : NN) (L : List (Int × Bool)) : List Int := if proW n L = 0 then gvW n.arcs L else []
def outK (n : NN) (L : List (Int × Bool)) : List Int := if proW n L = 0 then kpW n.arcs L else []
theorem out_len (n : NN) (L : List (Int × Bool)) : (outG n L).length ≤ 96 ∧ (outK n L).length ≤ 96 := by
  unfold outG outK
  by_cases h : proW n L = 0
  · rw [if_pos h, if_pos h, gv_len, kp_len]
    unfold proW at h
    split at h
    · split at h
      · exact absurd h (by decide)
      · omega
    · exact absurd h (by assumption)
  · rw [if_neg h, if_neg h]
    decide
set_option maxRecDepth 100000 in
set_option maxHeartbeats 16000000 in
theorem witnessProducts_walk (n : NN) (a : Option Addr) (c : Nat) (la : Option Addr) (len lc : Nat) (L : List (Int × Bool)) (w : World) (h : ArgN w a c n) (hL : ArgT w la len lc L) : Calls Try.prog 3 #[.agg #[.int .i64 n.nodes, .slice a n.arcs.length c], .slice la len lc] w fun e w' => e = .returned (.bool true) ∧ Below w.heap.size w w' := by
  have hroom : n.arcs.length ≤ 4611686018427387904 := by have := h.room; omega
  have hLr : L.length ≤ 4611686018427387904 := by have := hL.room; omega
  have AW : Hid (∀ U, Calls Try.prog 14 #[] U fun e w' => e = .returned (.bool true) ∧ Below U.heap.size U w') := fun U => awakeW U
  have b0 := (Below.refl w.heap.size w).alloc (Nat.le_refl _) (.cells #[.int .i64 n.nodes, .slice a n.arcs.length c] 24)
  have X0 := hiddenN (blkA_new 24 w #[.int .i64 n.nodes, .slice a n.arcs.length c])
  have B0 := hiddenN b0
  have HA := hiddenN (h.lies.below b0)
  have hlen := hL.len
  subst hlen
  have HL := hiddenN (hL.below b0)
  have RP := hiddenN (rproducts_any n a c L la lc _ (h.lies.below b0) hroom (hL.lies.below b0) hLr)
  have PP : Hid (∀ U d e, AtN U a n.arcs → AtT U d L → Calls Try.prog 10 #[.agg #[.int .i64 n.nodes, .slice a n.arcs.length c], .slice d L.length e] U (ProE U n L)) := fun U d e g1 g2 => products_any n a c L d e U g1 hroom g2 hLr
  have ST : Hid (∀ U, ArgT U la L.length lc L → Calls Try.prog 9 #[.slice la L.length lc] U (RowT U L)) := fun U g => steps_any L la _ lc U g
  have SI : Hid (∀ (zs : List Int) U x y cx cy, zs.length ≤ 96 → At U x zs → At U y zs → Calls Try.prog 11 #[.slice x zs.length cx, .slice y zs.length cy] U fun e w' => e = .returned (.bool true) ∧ Below U.heap.size U w') := fun zs U x y cx cy hz h1 h2 => sameN U x y zs cx cy (by omega) h1 h2
  have SS : Hid (∀ U x y cx cy, AtT U x L → AtT U y L → Calls Try.prog 12 #[.slice x L.length cx, .slice y L.length cy] U fun e w' => e = .returned (.bool true) ∧ Below U.heap.size U w') := fun U x y cx cy h1 h2 => sameT_any L x y cx cy U h1 h2 hLr
  unfold ProE at RP PP
  unfold RowT at ST
  obtain ⟨o1, o2⟩ := out_len n L
  have HG : Hid ((if proW n L = 0 then gvW n.arcs L else []) = outG n L) := rfl
  have HK : Hid ((if proW n L = 0 then kpW n.arcs L else []) = outK n L) := rfl
  rw [HG.out, HK.out] at RP PP
  clear HG HK
  generalize outG n L = G at *
  generalize outK n L = K at *
  generalize proW n L = E at *
  obtain ⟨N, hLN⟩ : ∃ N, L.length = N := ⟨_, rfl⟩
  rw [hLN] at RP PP ST SS HL ⊢
  have y0 := X0.out.cell (k := 0) rfl
  have y1 := X0.out.cell (k := 1) rfl
  simp only [List.getElem_toArray, List.getElem_cons_zero, List.getElem_cons_succ] at y0 y1
  have hEE : (E != E) = false := by simp
  clear b0 h hL hLN hLr
  go_enter Try.func3, Try.ntmps3
  go_upto_region 1 with fail
  generalize w.alloc (.cells #[.int .i64 n.nodes, .slice a n.arcs.length c] 24) = W0 at *
  go_upto_region 2 with (go_at_call 8; (with_reducible refine RP.out.mono ?_); rintro e W1 ⟨d1, c1, d2, c2, rfl, q1, b1⟩; have G1 := hiddenN q1.r1.at; have K1 := hiddenN q1.r2.at; have L1 := hiddenN (B0.out.trans (b1.mono B0.out.size)); have X1 := hiddenN (X0.out.below b1); have A1 := hiddenN (HA.out.below b1); have S1 := hiddenN (HL.out.below b1); clear q1 b1 y0 y1)
  clear RP X0 B0 HA HL
  go_upto_region 3 with (go_at_call 9; (with_reducible refine (ST.out _ S1.out).mono ?_); rintro e W2 ⟨sd, sc, rfl, q2, b2⟩; have O2 := hiddenN q2.at; have L2 := hiddenN (L1.out.trans (b2.mono L1.out.size)); have X2 := hiddenN (X1.out.below b2); have A2 := hiddenN (A1.out.below b2); have S2 := hiddenN (S1.out.below b2); have G2 := hiddenN (G1.out.below b2); have K2 := hiddenN (K1.out.below b2); clear q2 b2)
  clear ST X1 A1 S1 G1 K1 L1
  have y0 := X2.out.cell (k := 0) rfl
  have y1 := X2.out.cell (k := 1) rfl
  simp only [List.getElem_toArray, List.getElem_cons_zero, List.getElem_cons_succ] at y0 y1
  go_upto_region 4 with (go_at_call 10; (with_reducible refine (PP.out _ sd sc A2.out O2.out).mono ?_); rintro e W3 ⟨e1, k1, e2, k2, rfl, q3, b3⟩; have TR := hiddenN q3; have Q3 := hiddenN b3.size; have L3 := hiddenN (L2.out.trans (b3.mono L2.out.size)); have S3 := hiddenN (S2.out.below b3); have O3 := hiddenN (O2.out.below b3); have G3 := hiddenN (G2.out.below b3); have K3 := hiddenN (K2.out.below b3); clear q3 b3 y0 y1)
  have L22 : Hid (w.heap.size ≤ W2.heap.size) := L2.out.size
  clear PP X2 A2 S2 G2 K2 L2 O2
  obtain ⟨B2, hB2⟩ : ∃ q, W2.heap.size = q := ⟨_, rfl⟩
  rw [hB2] at TR Q3 L22
  clear hB2
  go_upto_region 6 with (first
    | (go_at_call 12; (with_reducible refine (SS.out _ sd la sc lc O5.out S5.out.lies).mono ?_); rintro e W6 ⟨rfl, b6⟩; have L6 := hiddenN (L5.out.trans (b6.mono L5.out.size)); have TR6 := hiddenN (TR5.out.later b6); have Q6 := hiddenN (Nat.le_trans Q5.out b6.size); clear b6)
    | (go_at_call 11; (with_reducible refine (SI.out K _ d2 e2 c2 k2 o2 K4.out TR4.out.r2.at).mono ?_); rintro e W5 ⟨rfl, b5⟩; have L5 := hiddenN (L4.out.trans (b5.mono L4.out.size)); have TR5 := hiddenN (TR4.out.later b5); have Q5 := hiddenN (Nat.le_trans Q4.out b5.size); have O5 := hiddenN (O4.out.below b5); have S5 := hiddenN (S4.out.below b5); clear b5)
    | (go_at_call 11; (with_reducible refine (SI.out G _ d1 e1 c1 k1 o1 G3.out TR.out.r1.at).mono ?_); rintro e W4 ⟨rfl, b4⟩; have L4 := hiddenN (L3.out.trans (b4.mono L3.out.size)); have TR4 := hiddenN (TR.out.later b4); have Q4 := hiddenN (Nat.le_trans Q3.out b4.size); have O4 := hiddenN (O3.out.below b4); have S4 := hiddenN (S3.out.below b4); have K4 := hiddenN (K3.out.below b4); clear b4))
  have TB := hiddenN (table_pair (by omega) (by omega) TR6.out.r1 TR6.out.r2 TR6.out.ne Q6.out)
  have AT := hiddenN (apart_any _ _ 2 2 _ _ _ _ _ TB.out)
  have bt := hiddenN ((Below.refl W6.heap.size W6).alloc (Nat.le_refl _) (.cells #[.slice e1 G.length k1, .slice e2 K.length k2] 26))
  clear TB TR6
  go_wp2_with (first
    | (go_at_call 14; (with_reducible refine (AW.out _).mono ?_); rintro e V2 ⟨rfl, v2⟩; have M2 := hiddenN (M1.out.trans (v2.mono M1.out.size)); clear v2)
    | (go_at_call 13; (with_reducible refine AT.out.mono ?_); rintro e V1 ⟨rfl, v1⟩; have M1 := hiddenN ((L6.out.trans (bt.out.mono L6.out.size)).trans (v1.mono L22.out)); clear v1))
  go_ret
  exact ⟨rfl, M2.out⟩
end Go.Proofs.Ytdifaobfomfieaa
