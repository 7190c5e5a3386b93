/- Texts of one chain, laid one behind the other. -/
import Derived.Test.YtdifaobfomfieaaPartWitnessConfirms26
import Derived.Test.YtdifaobfomfieaaPartWitnessConfirms21
import Derived.Test.YtdifaobfomfieaaPartWitnessConfirms7
import Derived.Test.YtdifaobfomfieaaPartWitnessConfirms16
import Derived.Test.YtdifaobfomfieaaPartWitnessConfirms18
import Derived.Test.YtdifaobfomfieaaPartWitnessConfirms19
import Derived.Test.YtdifaobfomfieaaPartWitnessConfirms9
import Derived.Deep.LoopGhost
import Derived.Deep.DeepCutAuto
namespace Go.Proofs.Ytdifaobfomfieaa
open Go.ChangeShapes Go.WideShapes Go.ChangeAt Go.RowKit
/-- A box that was laid since. -/
def NewB (B : Nat) (T : TypeId) (cs : Array Value) (u : World) (v : Value) : Prop := ∃ xb, v = .pointer (some ⟨xb, 0, none⟩) ∧ B ≤ xb ∧ BlkA T xb u cs
theorem NewB.later {B : Nat} {T : TypeId} {cs : Array Value} {u u' : World} {v : Value} (h : NewB B T cs u v) (hb : Below u.heap.size u u') : NewB B T cs u' v := by
  obtain ⟨xb, h1, h2, h3⟩ := h
  exact ⟨xb, h1, h2, h3.below hb⟩
theorem Wh.but {w w' : World} {neg : Bool} {a : Option Addr} {len cap : Nat} {ds : List Int} {n : Int} {xb : Nat} {T : TypeId} {m : Bool} {sa : Option Addr} {sl sc : Nat} (h : Wh w neg a len cap ds n) (hX : BlkA T xb w #[.bool m, .slice sa sl sc]) (hB : But xb w w') : Wh w' neg a len cap ds n := by
  have hat : At w' a ds := by
    rcases h.row.lies with e | ⟨b, off, e, hc⟩
    · exact .inl e
    · refine .inr ⟨b, off, e, fun k hk => ?_⟩
      have c0 := hc k hk
      have hlt := block_lt_of_cell c0
      have hne : b ≠ xb := fun e => by
        subst e
        unfold BlkA at hX
        simp only [World.cell?, hX] at c0
        match off + k, c0 with
        | 0, c0 => simp at c0
        | 1, c0 => simp at c0
        | i + 2, c0 => simp at c0
      have hbk : w'.heap[b]? = w.heap[b]? := hB.block b hlt hne
      rw [← c0]
      exact World.cell?_of_block (w := w) hbk
  exact ⟨⟨h.row.size, hat, h.row.none, h.row.room, h.row.short, h.row.dig⟩, h.norm, h.worth, h.sign⟩
theorem cmpI_zero (x y : Int) : (cmpI x y == 0) = decide (x = y) := by
  rcases Int.lt_trichotomy x y with k | k | k
  · rw [cmpI_lt k, decide_eq_false (by omega)]; rfl
  · rw [cmpI_eq k, decide_eq_true k]; rfl
  · rw [cmpI_gt k, decide_eq_false (by omega)]; rfl
set_option maxRecDepth 100000 in
set_option maxHeartbeats 4000000 in
theorem endsT0 (A : List NA) (j : Nat) (b : Bool) (m : Int) (a : Option Addr) (c : Nat) (w : World) (ha : AtN w a A) (hj : j < A.length) :
    Calls Try.prog 41 #[.agg #[.int .i64 m, .slice a A.length c], .agg #[.int .i64 (j : Int), .bool b]] w fun e w' => e = .returned (.tuple #[.int .i64 (if b = true then (nthNa A j).t else (nthNa A j).f), .int .i64 (if b = true then (nthNa A j).f else (nthNa A j).t)]) ∧ Below w.heap.size w w' := by
  have b0 := (Below.refl w.heap.size w).alloc (Nat.le_refl _) (.cells #[.int .i64 m, .slice a A.length c] 24)
  have b1 := b0.alloc b0.size (.cells #[.int .i64 (j : Int), .bool b] 43)
  have hsz : (w.alloc (.cells #[.int .i64 m, .slice a A.length c] 24)).heap.size = w.heap.size + 1 := World.size_alloc _ _
  have X0 := hiddenN ((blkA_new 24 w #[.int .i64 m, .slice a A.length c]).below ((Below.refl _ _).alloc (Nat.le_refl _) (.cells #[.int .i64 (j : Int), .bool b] 43)))
  have xz := blkA_new 43 (w.alloc (.cells #[.int .i64 m, .slice a A.length c] 24)) #[.int .i64 (j : Int), .bool b]
  rw [hsz] at xz
  have XS := hiddenN xz
  have B1 := hiddenN b1
  obtain ⟨nb1, no1, en, -, hcn⟩ := arcs_at (ha.below b1) j hj
  obtain ⟨a0, a1, a2, a3, a4⟩ := hcn j hj
  clear b0 b1 hsz xz ha hcn
  generalize (nthNa A j).g = ag at *
  generalize (nthNa A j).k = ak at *
  generalize (nthNa A j).s = az at *
  have hjI : (j : Int) < (A.length : Int) := by omega
  subst en
  have y1 := X0.out.cell (k := 1) rfl
  have s0 := XS.out.cell (k := 0) rfl
  have s1 := XS.out.cell (k := 1) rfl
  simp only [List.getElem_toArray, List.getElem_cons_zero, List.getElem_cons_succ] at y1 s0 s1
  generalize (nthNa A j).f = p at *
  generalize (nthNa A j).t = r at *
  cases b with
  | false =>
    simp only [Bool.false_eq_true, if_false]
    go_enter Try.func41, Try.ntmps41
    go_upto_region 1 with fail
    generalize (w.alloc (.cells #[.int .i64 m, .slice (some ⟨nb1, no1, none⟩) A.length c] 24)).alloc (.cells #[.int .i64 (j : Int), .bool false] 43) = W0 at *
    go_upto_region 2 with fail
    have bb := (Below.refl W0.heap.size W0).alloc (Nat.le_refl _) (.cells #[.int .i64 p, .int .i64 r, .int .i64 ag, .int .i64 ak, .int .i64 az] 46)
    have XA := hiddenN (blkA_new 46 W0 #[.int .i64 p, .int .i64 r, .int .i64 ag, .int .i64 ak, .int .i64 az])
    have L1 := hiddenN (B1.out.trans (bb.mono B1.out.size))
    have s1' := cellN_later bb s1
    obtain ⟨xb, hxb⟩ : ∃ q, W0.heap.size = q := ⟨_, rfl⟩
    rw [hxb] at XA ⊢
    generalize W0.alloc (.cells #[.int .i64 p, .int .i64 r, .int .i64 ag, .int .i64 ak, .int .i64 az] 46) = W1 at *
    have x0 := XA.out.cell (k := 0) rfl
    have x1 := XA.out.cell (k := 1) rfl
    simp only [List.getElem_toArray, List.getElem_cons_zero, List.getElem_cons_succ] at x0 x1
    clear bb hxb a0 a1 a2 a3 a4 y1 s0 s1 X0 XS B1
    go_upto_region 4 with fail
    go_quiet (fail)
    have L2 := hiddenN (L1.out.trans ((drewF W1 nq).mono L1.out.size))
    clear x0 x1
    generalize W1.drewN nq = W2 at *
    go_wp2
    go_ret2
    exact ⟨rfl, L2.out⟩
  | true =>
    simp only [if_true]
    go_enter Try.func41, Try.ntmps41
    go_upto_region 1 with fail
    generalize (w.alloc (.cells #[.int .i64 m, .slice (some ⟨nb1, no1, none⟩) A.length c] 24)).alloc (.cells #[.int .i64 (j : Int), .bool true] 43) = W0 at *
    go_upto_region 2 with fail
    have bb := (Below.refl W0.heap.size W0).alloc (Nat.le_refl _) (.cells #[.int .i64 p, .int .i64 r, .int .i64 ag, .int .i64 ak, .int .i64 az] 46)
    have XA := hiddenN (blkA_new 46 W0 #[.int .i64 p, .int .i64 r, .int .i64 ag, .int .i64 ak, .int .i64 az])
    have L1 := hiddenN (B1.out.trans (bb.mono B1.out.size))
    have s1' := cellN_later bb s1
    obtain ⟨xb, hxb⟩ : ∃ q, W0.heap.size = q := ⟨_, rfl⟩
    rw [hxb] at XA ⊢
    generalize W0.alloc (.cells #[.int .i64 p, .int .i64 r, .int .i64 ag, .int .i64 ak, .int .i64 az] 46) = W1 at *
    have x0 := XA.out.cell (k := 0) rfl
    have x1 := XA.out.cell (k := 1) rfl
    simp only [List.getElem_toArray, List.getElem_cons_zero, List.getElem_cons_succ] at x0 x1
    clear bb hxb a0 a1 a2 a3 a4 y1 s0 s1 X0 XS B1
    go_upto_region 3 with fail
    go_quiet (fail)
    have L2 := hiddenN (L1.out.trans ((drewF W1 nq).mono L1.out.size))
    clear x0 x1
    generalize W1.drewN nq = W2 at *
    go_wp2
    go_ret2
    exact ⟨rfl, L2.out⟩
theorem endsT_any (A : List NA) (x : Int × Bool) (m : Int) (a : Option Addr) (c : Nat) (w : World) (ha : AtN w a A) (hx : inW A x = true) : Calls Try.prog 41 #[.agg #[.int .i64 m, .slice a A.length c], .agg #[.int .i64 x.1, .bool x.2]] w fun e w' => e = .returned (.tuple #[.int .i64 (stW A x), .int .i64 (enW A x)]) ∧ Below w.heap.size w w' := by
  obtain ⟨z, b⟩ := x
  obtain ⟨h0, h1⟩ := inW_iff.1 hx
  simp only at h0 h1
  obtain ⟨j, rfl⟩ : ∃ j : Nat, z = (j : Int) := ⟨z.toNat, by omega⟩
  have q := endsT0 A j b m a c w ha (by omega)
  unfold stW enW tkW
  cases b with
  | false => exact q
  | true => exact q
set_option maxRecDepth 100000 in
set_option maxHeartbeats 16000000 in
theorem rproducts_any (n : NN) (a : Option Addr) (c : Nat) (L : List (Int × Bool)) (la : Option Addr) (lc : Nat) (w : World) (ha : AtN w a n.arcs) (hln : n.arcs.length ≤ 4611686018427387904) (hl : AtT w la L) (hN : L.length ≤ 4611686018427387904) :
    Calls Try.prog 8 #[.agg #[.int .i64 n.nodes, .slice a n.arcs.length c], .slice la L.length lc] w (ProE w n L) := by
  have b0 := (Below.refl w.heap.size w).alloc (Nat.le_refl _) (.cells #[.int .i64 n.nodes, .slice a n.arcs.length c] 24)
  have X0 := hiddenN (blkA_new 24 w #[.int .i64 n.nodes, .slice a n.arcs.length c])
  have B0 := hiddenN b0
  have HA := hiddenN (ha.below b0)
  have HL := hiddenN (hl.below b0)
  have CH := hiddenN (rcheck10_any n a c _ (ha.below b0) hln)
  have y0 := X0.out.cell (k := 0) rfl
  have y1 := X0.out.cell (k := 1) rfl
  simp only [List.getElem_toArray, List.getElem_cons_zero, List.getElem_cons_succ] at y0 y1
  clear b0 ha hl
  obtain ⟨RE, hRE⟩ : ∃ R, ProE w n L = R := ⟨_, rfl⟩
  rw [hRE]
  have HRE := hiddenN hRE
  obtain ⟨E, hE⟩ : ∃ E, proW n L = E := ⟨_, rfl⟩
  have HE := hiddenN hE
  unfold proW at hE
  clear hRE
  by_cases hc : checkN n = 0
  case neg =>
    rw [if_neg hc] at hE
    have hne : (checkN n != 0) = true := by simpa using hc
    rw [hE] at CH hne hc
    clear hE
    generalize L.length = N at *
    go_enter Try.func8, Try.ntmps8
    go_upto_region 1 with fail
    generalize w.alloc (.cells #[.int .i64 n.nodes, .slice a n.arcs.length c] 24) = W0 at *
    go_wp2_with (go_at_call 21; (with_reducible refine CH.out.mono ?_); rintro e V1 ⟨rfl, q1⟩; have L1 := hiddenN (B0.out.trans (q1.mono B0.out.size)); clear q1)
    rw [← HRE.out]
    exact pro_no HE.out hc L1.out
  rw [if_pos hc] at hE
  rw [hc] at CH
  by_cases hlong : 96 < L.length
  · rw [if_pos hlong] at hE
    subst hE
    have hi : (96 : Int) < (L.length : Int) := by omega
    generalize L.length = N at *
    go_enter Try.func8, Try.ntmps8
    go_upto_region 1 with fail
    generalize w.alloc (.cells #[.int .i64 n.nodes, .slice a n.arcs.length c] 24) = W0 at *
    go_wp2_with (go_at_call 21; (with_reducible refine CH.out.mono ?_); rintro e V1 ⟨rfl, q1⟩; have L1 := hiddenN (B0.out.trans (q1.mono B0.out.size)); clear q1)
    rw [← HRE.out]
    exact pro_no HE.out (by decide) L1.out
  rw [if_neg hlong] at hE
  have HNM := hiddenN hE
  clear hE
  have hi : ¬ (96 : Int) < (L.length : Int) := by omega
  have hN96 : L.length ≤ 96 := by omega
  obtain ⟨N, hLN⟩ : ∃ N, L.length = N := ⟨_, rfl⟩
  have HLN := hiddenN hLN
  rw [hLN] at hi hN96 ⊢
  clear hLN hlong hN hc
  go_enter Try.func8, Try.ntmps8
  go_upto_region 1 with fail
  generalize w.alloc (.cells #[.int .i64 n.nodes, .slice a n.arcs.length c] 24) = W0 at *
  go_upto_region 8 with (go_at_call 21; (with_reducible refine CH.out.mono ?_); rintro e V1 ⟨rfl, q1⟩; have C1 := hiddenN q1; have L1 := hiddenN (B0.out.trans (q1.mono B0.out.size)); clear q1)
  clear CH y0 y1
  obtain ⟨B, hB⟩ : ∃ B, W0.heap.size = B := ⟨_, rfl⟩
  have HB := hiddenN hB
  rw [hB] at C1
  clear hB
  go_wp2
  go_loopg [8, 9, 10] N (fun gk u8 u9 u10 wr => ∃ (k : Nat) (d1 : Option Addr) (c1 : Nat) (d2 : Option Addr) (c2 : Nat), k ≤ N ∧ gk = N - k ∧ u8 = .slice d1 (gvW n.arcs (L.take k)).length c1 ∧ u9 = .slice d2 (kpW n.arcs (L.take k)).length c2 ∧ u10 = .int .i64 (k : Int) ∧ TwR B wr d1 c1 (gvW n.arcs (L.take k)) d2 c2 (kpW n.arcs (L.take k)) ∧ Below B W0 wr ∧ ∀ i, i < k → inW n.arcs (nthT L i) = true)
  case atStart => exact ⟨0, none, 0, none, 0, Nat.zero_le _, rfl, rfl, rfl, rfl, TwR.nil _ _, C1.out, fun i hi => absurd hi (Nat.not_lt_zero _)⟩
  case round =>
    obtain ⟨k, d1, c1, d2, c2, hkN, rfl, rfl, rfl, rfl, hT, hBr, hI⟩ := hrel
    have BR := hiddenN hBr
    have T0 := hiddenN hT
    have HI := hiddenN hI
    clear hBr hT hI
    by_cases hlt : k < N
    · have hki : (k : Int) < (N : Int) := by omega
      have hkL : k < L.length := by rw [HLN.out]; exact hlt
      have HT := HLN.out
      have hBw : B ≤ wr.heap.size := by have := BR.out.size; have := HB.out; omega
      have BRW : Hid (Below W0.heap.size W0 wr) := by show Below _ _ _; rw [HB.out]; exact BR.out
      rcases HL.out.below BRW.out with e | ⟨lb, lo, el, hcl⟩
      · rw [e] at HT; simp at HT; omega
      obtain ⟨c0', c1'⟩ := hcl k hkL
      subst el
      clear hcl HT
      have GT := hiddenN (gv_take (A := n.arcs) hkL)
      have HIN0 : Hid (inW n.arcs (nthT L k) = inW n.arcs (nthT L k)) := rfl
      obtain ⟨xx, hxx⟩ : ∃ x, nthT L k = x := ⟨_, rfl⟩
      have HXX := hiddenN hxx
      rw [hxx] at c0' c1' GT
      clear hxx HIN0
      obtain ⟨z, b⟩ := xx
      simp only at c0' c1'
      have XN := hiddenN (X0.out.below BRW.out)
      have y1 := XN.out.cell (k := 1) rfl
      simp only [List.getElem_toArray, List.getElem_cons_zero, List.getElem_cons_succ] at y1
      by_cases h0 : z < 0
      · have HF : Hid (E = 120) := by
          have q := HNM.out
          rw [if_neg (by rw [show nmW n.arcs L = false from all_miss (i := k) hkL (by rw [HXX.out]; unfold inW; simp; omega)]; decide)] at q
          exact q.symm
        go_upto_region 11 with fail
        go_quiet (fail)
        have B2 := hiddenN (BR.out.trans ((drewF wr nq).mono hBw))
        generalize wr.drewN nq = V2 at *
        go_wp2
        rw [← HRE.out]
        exact pro_no (HE.out.trans HF.out) (by decide) (B0.out.trans (B2.out.mono (by have := B0.out.size; have := HB.out; omega)))
      by_cases h1 : (n.arcs.length : Int) ≤ z
      · have HF : Hid (E = 120) := by
          have q := HNM.out
          rw [if_neg (by rw [show nmW n.arcs L = false from all_miss (i := k) hkL (by rw [HXX.out]; unfold inW; simp; omega)]; decide)] at q
          exact q.symm
        go_upto_region 11 with fail
        go_quiet (fail)
        have B2 := hiddenN (BR.out.trans ((drewF wr nq).mono hBw))
        generalize wr.drewN nq = V2 at *
        go_wp2
        rw [← HRE.out]
        exact pro_no (HE.out.trans HF.out) (by decide) (B0.out.trans (B2.out.mono (by have := B0.out.size; have := HB.out; omega)))
      obtain ⟨j, rfl⟩ : ∃ j : Nat, z = (j : Int) := ⟨z.toNat, by omega⟩
      have hjA : j < n.arcs.length := by omega
      have hjI : (j : Int) < (n.arcs.length : Int) := by omega
      have HIN : Hid (inW n.arcs (nthT L k) = true) := by show _ = _; rw [HXX.out]; exact inW_iff.2 ⟨by show (0 : Int) ≤ j; omega, by show (j : Int) < _; omega⟩
      obtain ⟨ab, ao, ea, -, hca⟩ := arcs_at (HA.out.below BRW.out) j hjA
      obtain ⟨a0, a1, a2, a3, a4⟩ := hca j hjA
      have HTK : Hid (tkW n.arcs ((j : Int), b) = if b = true then ⟨(nthNa n.arcs j).t, (nthNa n.arcs j).f, (nthNa n.arcs j).k, (nthNa n.arcs j).g, (nthNa n.arcs j).s⟩ else nthNa n.arcs j) := rfl
      rw [HTK.out] at GT
      clear hca HTK
      generalize nthNa n.arcs j = PP at *
      obtain ⟨qf, qt, qg, qk, qs⟩ := PP
      simp only at a0 a1 a2 a3 a4 GT
      have hl1 : (gvW n.arcs (L.take k)).length ≤ 1000 := by rw [gv_len, List.length_take]; omega
      have hl2 : (kpW n.arcs (L.take k)).length ≤ 1000 := by rw [kp_len, List.length_take]; omega
      have GT1 := hiddenN GT.out.1
      have GT2 := hiddenN GT.out.2
      clear GT
      generalize gvW n.arcs (L.take k) = xs at *
      generalize kpW n.arcs (L.take k) = ys at *
      subst ea
      go_upto_region 11 with fail
      go_quiet (fail)
      have B2 := hiddenN (BR.out.trans ((drewF wr nq).mono hBw))
      have T2 := hiddenN (T0.out.later (drewF wr nq))
      have hB2 : B ≤ (wr.drewN nq).heap.size := hBw
      have y1' := cellN_later (drewF wr nq) y1
      have e0 := cellN_later (drewF wr nq) c0'
      have e1 := cellN_later (drewF wr nq) c1'
      have f0 := cellN_later (drewF wr nq) a0
      have f1 := cellN_later (drewF wr nq) a1
      have f2 := cellN_later (drewF wr nq) a2
      have f3 := cellN_later (drewF wr nq) a3
      have f4 := cellN_later (drewF wr nq) a4
      clear y1 c0' c1' a0 a1 a2 a3 a4 XN T0
      generalize wr.drewN nq = V2 at *
      go_upto_region 13 with fail
      refine wp_region_said 10 (fun i u v => match i with
          | 0 => v = .pointer (some ⟨w.heap.size, 1, none⟩)
          | 1 => v = .slice (some ⟨ab, ao, none⟩) n.arcs.length c
          | 2 => v = .slice (some ⟨lb, lo, none⟩) N lc
          | 3 => v = .int .i64 (k : Int)
          | 4 => v = .pointer (some ⟨lb, lo + k * 2, none⟩)
          | 5 => v = .pointer (some ⟨lb, lo + k * 2, none⟩)
          | 6 => v = .int .i64 (j : Int)
          | 7 => v = .pointer (some ⟨ab, ao + j * 5, none⟩)
          | 8 => v = .agg #[.int .i64 qf, .int .i64 qt, .int .i64 qg, .int .i64 qk, .int .i64 qs]
          | 9 => NewB V2.heap.size 46 #[.int .i64 0, .int .i64 0, .int .i64 0, .int .i64 0, .int .i64 0] u v
          | _ => True) (by kernel_rfl) (by kernel_rfl) (by kernel_rfl) (by kernel_rfl) ?_ ?_ ?_
      · intro i w v w' h hb
        match i, h with
        | 0, h => exact h
        | 1, h => exact h
        | 2, h => exact h
        | 3, h => exact h
        | 4, h => exact h
        | 5, h => exact h
        | 6, h => exact h
        | 7, h => exact h
        | 8, h => exact h
        | 9, h => exact h.later hb
        | _ + 10, _ => trivial
      · intro i o ρ w' hi ho hb hc hf hfr hdep
        have k1 := cellN_later hb y1'
        have k2 := cellN_later hb e0
        have g0 := cellN_later hb f0
        have g1 := cellN_later hb f1
        have g2 := cellN_later hb f2
        have g3 := cellN_later hb f3
        have g4 := cellN_later hb f4
        match i, hi with
        | 0, _ =>
          simp only [gTA, gCZ, gSI] at ho
          subst ho
          have ts : ρ (.tmp 2) = .pointer (some ⟨w.heap.size, 0, none⟩) := hfr 2 (by kernel_rfl)
          simp [go_sem, ts]
          exact ⟨Below.refl _ _, rfl⟩
        | 1, _ =>
          simp only [gTA, gCZ, gCS, gSI] at ho
          subst ho
          have ts : ρ (.tmp 43) = .pointer (some ⟨w.heap.size, 1, none⟩) := hdep 0 43 (by kernel_rfl) (by kernel_rfl)
          simp [go_sem, ts, k1]
          exact ⟨Below.refl _ _, rfl⟩
        | 2, _ =>
          simp only [gTA, gCZ, gCS, gSI] at ho
          subst ho
          have ts : ρ (.tmp 1) = .slice (some ⟨lb, lo, none⟩) N lc := hfr 1 (by kernel_rfl)
          simp [go_sem, ts]
          exact ⟨Below.refl _ _, rfl⟩
        | 3, _ =>
          simp only [gTA, gCZ, gCS, gSI] at ho
          subst ho
          have ts : ρ (.tmp 10) = .int .i64 (k : Int) := hfr 10 (by kernel_rfl)
          simp [go_sem, ts]
          exact ⟨Below.refl _ _, rfl⟩
        | 4, _ =>
          simp only [gTA, gCZ, gCS, gSI] at ho
          subst ho
          have t0 : ρ (.tmp 45) = .slice (some ⟨lb, lo, none⟩) N lc := hdep 2 45 (by kernel_rfl) (by kernel_rfl)
          have t1 : ρ (.tmp 46) = .int .i64 (k : Int) := hdep 3 46 (by kernel_rfl) (by kernel_rfl)
          simp [go_sem, t0, t1, hlt]
          exact ⟨Below.refl _ _, rfl⟩
        | 5, _ =>
          simp only [gTA, gCZ, gCS, gSI] at ho
          subst ho
          have ts : ρ (.tmp 47) = .pointer (some ⟨lb, lo + k * 2, none⟩) := hdep 4 47 (by kernel_rfl) (by kernel_rfl)
          simp [go_sem, ts]
          exact ⟨Below.refl _ _, rfl⟩
        | 6, _ =>
          simp only [gTA, gCZ, gCS, gSI] at ho
          subst ho
          have ts : ρ (.tmp 48) = .pointer (some ⟨lb, lo + k * 2, none⟩) := hdep 5 48 (by kernel_rfl) (by kernel_rfl)
          simp [go_sem, ts, k2]
          exact ⟨Below.refl _ _, rfl⟩
        | 7, _ =>
          simp only [gTA, gCZ, gCS, gSI] at ho
          subst ho
          have t0 : ρ (.tmp 44) = .slice (some ⟨ab, ao, none⟩) n.arcs.length c := hdep 1 44 (by kernel_rfl) (by kernel_rfl)
          have t1 : ρ (.tmp 49) = .int .i64 (j : Int) := hdep 6 49 (by kernel_rfl) (by kernel_rfl)
          simp [go_sem, t0, t1, hjA]
          exact ⟨Below.refl _ _, rfl⟩
        | 8, _ =>
          simp only [gTA, gCZ, gCS, gSI] at ho
          subst ho
          have t0 : ρ (.tmp 50) = .pointer (some ⟨ab, ao + j * 5, none⟩) := hdep 7 50 (by kernel_rfl) (by kernel_rfl)
          simp [go_sem, t0, g0, g1, g2, g3, g4]
          exact ⟨Below.refl _ _, rfl⟩
        | 9, _ =>
          simp only [gTA, gCZ, gCS, gSI] at ho
          subst ho
          simp [go_sem]
          exact ⟨(Below.refl _ _).alloc (Nat.le_refl _) _, w'.heap.size, rfl, hb.size, blkA_new 46 w' #[.int .i64 0, .int .i64 0, .int .i64 0, .int .i64 0, .int .i64 0]⟩
      · intro V W9 q9 hS
        have ee0 : V 0 = .pointer (some ⟨w.heap.size, 1, none⟩) := hS 0 (by decide)
        have ee1 : V 1 = .slice (some ⟨ab, ao, none⟩) n.arcs.length c := hS 1 (by decide)
        have e2 : V 2 = .slice (some ⟨lb, lo, none⟩) N lc := hS 2 (by decide)
        have e3 : V 3 = .int .i64 (k : Int) := hS 3 (by decide)
        have e4 : V 4 = .pointer (some ⟨lb, lo + k * 2, none⟩) := hS 4 (by decide)
        have e5 : V 5 = .pointer (some ⟨lb, lo + k * 2, none⟩) := hS 5 (by decide)
        have e6 : V 6 = .int .i64 (j : Int) := hS 6 (by decide)
        have e7 : V 7 = .pointer (some ⟨ab, ao + j * 5, none⟩) := hS 7 (by decide)
        have e8 : V 8 = .agg #[.int .i64 qf, .int .i64 qt, .int .i64 qg, .int .i64 qk, .int .i64 qs] := hS 8 (by decide)
        obtain ⟨tb, e9, hxw, xX⟩ : NewB V2.heap.size 46 #[.int .i64 0, .int .i64 0, .int .i64 0, .int .i64 0, .int .i64 0] W9 (V 9) := hS 9 (by decide)
        simp only [List.drop_succ_cons, List.drop_zero, List.take_succ_cons, List.take_zero, puts, ee0, ee1, e2, e3, e4, e5, e6, e7, e8, e9]
        clear hS ee0 ee1 e2 e3 e4 e5 e6 e7 e8 e9 V
        simp only [Act.put, List.setIfInBounds_toArray, List.set_cons_zero, List.set_cons_succ]
        have XZ := hiddenN xX
        have Q9 := hiddenN q9
        clear xX q9 y1' f0 f1 f2 f3 f4 e0
        go_upto_region 14 with (refine wpList_storeW _ rfl 46 (.tmp 11) (.tmp 51) rfl rfl tb 46 _ _ rfl rfl XZ.out sizArcW rfl rfl ?_; intro V3 hN hU; have XT := hiddenN hN; have U3 := hiddenN hU; clear hN hU)
        have LV := hiddenN (Q9.out.trans (U3.out.below hxw Q9.out.size))
        have T3 := hiddenN (T2.out.later LV.out)
        have BU := hiddenN (B2.out.trans (LV.out.mono hB2))
        have e1' := cellN_later LV.out e1
        have hB3 : B ≤ V3.heap.size := by have := BU.out.size; have := HB.out; omega
        have NE1 : Hid (∀ y, d1 = some y → y.block ≠ tb) := fun y hy => by have := (T2.out.r1.lt y hy).2; omega
        clear XZ Q9 U3 LV T2 B2 e1
        cases b with
        | true =>
          simp only [if_true] at GT1 GT2
          go_upto_region 15 with fail
          have x2 := XT.out.cell (k := 3) rfl
          simp only [List.getElem_toArray, List.getElem_cons_zero, List.getElem_cons_succ] at x2
          have bx := (Below.refl V3.heap.size V3).alloc (Nat.le_refl _) (.cells #[.int .i64 qk] 3)
          have CY := hiddenN ((blkA_new 3 V3 #[.int .i64 qk]).cell (k := 0) rfl)
          have CX := hiddenN (T3.out.later bx)
          have hsX : B ≤ (V3.alloc (.cells #[.int .i64 qk] 3)).heap.size := Nat.le_trans hB3 bx.size
          have BX := hiddenN (BU.out.trans (bx.mono hB3))
          have XTX := hiddenN (XT.out.below bx)
          clear bx T3 BU
          go_upto_region 16 with (at_builtin; refine wpList_appG rfl _ _ rfl B d1 c1 xs rfl CX.out.r1 V3.heap.size qk rfl CY.out (by omega) hsX ?_; intro d9 c9 V4 hG; have GR := hiddenN hG; clear hG)
          have T4 := hiddenN (CX.out.grow GR.out)
          have B4 := hiddenN (BX.out.trans (GR.out.below hsX (fun y hy => (CX.out.r1.lt y hy).1)))
          have XT4 := hiddenN (XTX.out.keep (GR.out.keep tb XTX.out.lt NE1.out))
          have hB4 : B ≤ V4.heap.size := by have := B4.out.size; have := HB.out; omega
          clear GR CX CY BX XTX hsX
          have x3 := XT4.out.cell (k := 2) rfl
          simp only [List.getElem_toArray, List.getElem_cons_zero, List.getElem_cons_succ] at x3
          have bx := (Below.refl V4.heap.size V4).alloc (Nat.le_refl _) (.cells #[.int .i64 qg] 3)
          have CY := hiddenN ((blkA_new 3 V4 #[.int .i64 qg]).cell (k := 0) rfl)
          have CX := hiddenN (T4.out.later bx).swap
          have hsX : B ≤ (V4.alloc (.cells #[.int .i64 qg] 3)).heap.size := Nat.le_trans hB4 bx.size
          have BX := hiddenN (B4.out.trans (bx.mono hB4))
          clear bx T4
          go_wp2_with (at_builtin; refine wpList_appG rfl _ _ rfl B d2 c2 ys rfl CX.out.r1 V4.heap.size qg rfl CY.out (by omega) hsX ?_; intro d8 c8 V5 hG; have GR := hiddenN hG; clear hG)
          have T5 := hiddenN (CX.out.grow GR.out).swap
          have B5 := hiddenN (BX.out.trans (GR.out.below hsX (fun y hy => (CX.out.r1.lt y hy).1)))
          clear GR CX CY BX hsX
          go_roundg (N - (k + 1))
          case measure => omega
          case rel => exact ⟨k + 1, d9, c9, d8, c8, by omega, rfl, by rw [GT1.out, List.length_append]; rfl, by rw [GT2.out, List.length_append]; rfl, by go_num, by rw [GT1.out, GT2.out]; exact T5.out, B5.out, fun i hi => by by_cases e : i = k; (rw [e]; exact HIN.out); exact HI.out i (by omega)⟩
        | false =>
          simp only [Bool.false_eq_true, if_false] at GT1 GT2
          go_upto_region 17 with fail
          have x2 := XT.out.cell (k := 2) rfl
          simp only [List.getElem_toArray, List.getElem_cons_zero, List.getElem_cons_succ] at x2
          have bx := (Below.refl V3.heap.size V3).alloc (Nat.le_refl _) (.cells #[.int .i64 qg] 3)
          have CY := hiddenN ((blkA_new 3 V3 #[.int .i64 qg]).cell (k := 0) rfl)
          have CX := hiddenN (T3.out.later bx)
          have hsX : B ≤ (V3.alloc (.cells #[.int .i64 qg] 3)).heap.size := Nat.le_trans hB3 bx.size
          have BX := hiddenN (BU.out.trans (bx.mono hB3))
          have XTX := hiddenN (XT.out.below bx)
          clear bx T3 BU
          go_upto_region 18 with (at_builtin; refine wpList_appG rfl _ _ rfl B d1 c1 xs rfl CX.out.r1 V3.heap.size qg rfl CY.out (by omega) hsX ?_; intro d9 c9 V4 hG; have GR := hiddenN hG; clear hG)
          have T4 := hiddenN (CX.out.grow GR.out)
          have B4 := hiddenN (BX.out.trans (GR.out.below hsX (fun y hy => (CX.out.r1.lt y hy).1)))
          have XT4 := hiddenN (XTX.out.keep (GR.out.keep tb XTX.out.lt NE1.out))
          have hB4 : B ≤ V4.heap.size := by have := B4.out.size; have := HB.out; omega
          clear GR CX CY BX XTX hsX
          have x3 := XT4.out.cell (k := 3) rfl
          simp only [List.getElem_toArray, List.getElem_cons_zero, List.getElem_cons_succ] at x3
          have bx := (Below.refl V4.heap.size V4).alloc (Nat.le_refl _) (.cells #[.int .i64 qk] 3)
          have CY := hiddenN ((blkA_new 3 V4 #[.int .i64 qk]).cell (k := 0) rfl)
          have CX := hiddenN (T4.out.later bx).swap
          have hsX : B ≤ (V4.alloc (.cells #[.int .i64 qk] 3)).heap.size := Nat.le_trans hB4 bx.size
          have BX := hiddenN (B4.out.trans (bx.mono hB4))
          clear bx T4
          go_wp2_with (at_builtin; refine wpList_appG rfl _ _ rfl B d2 c2 ys rfl CX.out.r1 V4.heap.size qk rfl CY.out (by omega) hsX ?_; intro d8 c8 V5 hG; have GR := hiddenN hG; clear hG)
          have T5 := hiddenN (CX.out.grow GR.out).swap
          have B5 := hiddenN (BX.out.trans (GR.out.below hsX (fun y hy => (CX.out.r1.lt y hy).1)))
          clear GR CX CY BX hsX
          go_roundg (N - (k + 1))
          case measure => omega
          case rel => exact ⟨k + 1, d9, c9, d8, c8, by omega, rfl, by rw [GT1.out, List.length_append]; rfl, by rw [GT2.out, List.length_append]; rfl, by go_num, by rw [GT1.out, GT2.out]; exact T5.out, B5.out, fun i hi => by by_cases e : i = k; (rw [e]; exact HIN.out); exact HI.out i (by omega)⟩
    · have ek : k = N := by omega
      subst ek
      have hki : ¬ (k : Int) < (k : Int) := by omega
      have eL : L.take k = L := by rw [← HLN.out, List.take_length]
      rw [eL] at T0 ⊢
      have HF : Hid (E = 0) := by
        have q := HNM.out
        rw [if_pos (show nmW n.arcs L = true from all_range.2 fun i hi => HI.out i (by rw [HLN.out] at hi; exact hi))] at q
        exact q.symm
      go_wp2
      rw [← HRE.out]
      have hs : w.heap.size ≤ B := by have := B0.out.size; have := HB.out; omega
      refine ⟨d1, c1, d2, c2, ?_, ?_, B0.out.trans (BR.out.mono hs)⟩
      · rw [HE.out, HF.out, if_pos rfl, if_pos rfl]
      · rw [HE.out, HF.out, if_pos rfl, if_pos rfl]
        exact ⟨T0.out.r1.mono hs, T0.out.r2.mono hs, T0.out.ne⟩
theorem cyc_long {A : List NA} {L : List (Int × Bool)} (h : A.length < L.length) : cycW A L = false := by
  rw [← Bool.not_eq_true]
  intro k
  have := (cyc_iff.1 k).few
  omega
theorem cyc_off {A : List NA} {L : List (Int × Bool)} {i : Nat} (hi : i < L.length) (h : inW A (nthT L i) = false) : cycW A L = false := by
  unfold cycW nmW
  rw [all_miss hi h]
  simp
theorem cyc_away {A : List NA} {L : List (Int × Bool)} {i : Nat} (hi : i < L.length) (h : lkW A L i = false) : cycW A L = false := by
  unfold cycW hmW
  rw [all_miss hi h]
  simp
theorem cyc_twice {A : List NA} {L : List (Int × Bool)} {i j : Nat} (hi : i < L.length) (hj : j < i) (h : paW A (nthT L i) (nthT L j) = true) : cycW A L = false := by
  unfold cycW twW
  rw [all_miss hi (all_miss (p := fun j => !paW A (nthT L i) (nthT L j)) hj (by rw [h]; rfl))]
  simp
theorem cyc_yes {A : List NA} {L : List (Int × Bool)} (h0 : 0 < L.length) (h1 : ∀ i, i < L.length → inW A (nthT L i) = true) (h2 : ∀ i, i < L.length → lkW A L i = true) (h3 : ∀ i, i < L.length → frW A L i = true) : cycW A L = true := by
  unfold cycW nmW hmW twW
  rw [all_range.2 h1, all_range.2 h2, all_range.2 h3, decide_eq_true h0]
  rfl
set_option maxRecDepth 100000 in
set_option maxHeartbeats 16000000 in
theorem rcycle_any (A : List NA) (m : Int) (a : Option Addr) (c : Nat) (L : List (Int × Bool)) (la : Option Addr) (lc : Nat) (w : World) (ha : AtN w a A) (hl : AtT w la L) (hN : L.length ≤ 4611686018427387904) :
    Calls Try.prog 27 #[.agg #[.int .i64 m, .slice a A.length c], .slice la L.length lc] w fun e w' => e = .returned (.bool (cycW A L)) ∧ Below w.heap.size w w' := by
  have b0 := (Below.refl w.heap.size w).alloc (Nat.le_refl _) (.cells #[.int .i64 m, .slice a A.length c] 24)
  have X0 := hiddenN (blkA_new 24 w #[.int .i64 m, .slice a A.length c])
  have B0 := hiddenN b0
  have HA := hiddenN (ha.below b0)
  have HL := hiddenN (hl.below b0)
  have y0 := X0.out.cell (k := 0) rfl
  have y1 := X0.out.cell (k := 1) rfl
  simp only [List.getElem_toArray, List.getElem_cons_zero, List.getElem_cons_succ] at y0 y1
  clear b0 ha hl
  obtain ⟨N, hLN⟩ : ∃ N, L.length = N := ⟨_, rfl⟩
  have HLN := hiddenN hLN
  rw [hLN] at hN ⊢
  by_cases h1 : (N : Int) < 1
  · have HF : Hid (cycW A L = false) := by
      show _ = _
      unfold cycW
      rw [decide_eq_false (by rw [hLN]; omega)]
      simp
    clear hLN
    go_enter Try.func27, Try.ntmps27
    go_upto_region 1 with fail
    generalize w.alloc (.cells #[.int .i64 m, .slice a A.length c] 24) = W0 at *
    go_wp2
    go_ret
    exact ⟨by rw [HF.out]; rfl, B0.out⟩
  by_cases h2 : (A.length : Int) < (N : Int)
  · have HF : Hid (cycW A L = false) := cyc_long (by rw [hLN]; omega)
    clear hLN
    go_enter Try.func27, Try.ntmps27
    go_upto_region 1 with fail
    generalize w.alloc (.cells #[.int .i64 m, .slice a A.length c] 24) = W0 at *
    go_wp2
    go_ret
    exact ⟨by rw [HF.out]; rfl, B0.out⟩
  obtain ⟨K, hK⟩ : ∃ K, N = K + 1 := ⟨N - 1, by omega⟩
  have HNK := hiddenN hK
  have hKN : K < N := by omega
  have hwK : IntKind.i64.wrap ((N : Int) - 1) = (K : Int) := by rw [IntKind.wrap_i64]; omega
  rcases HL.out with e | ⟨lb, lo, el, -⟩
  · rw [e] at hLN; simp at hLN; omega
  subst el
  clear hLN hK
  go_enter Try.func27, Try.ntmps27
  go_upto_region 1 with fail
  generalize w.alloc (.cells #[.int .i64 m, .slice a A.length c] 24) = W0 at *
  have EN : Hid (∀ x U, inW A x = true → Below W0.heap.size W0 U → Calls Try.prog 41 #[.agg #[.int .i64 m, .slice a A.length c], .agg #[.int .i64 x.1, .bool x.2]] U fun e w' => e = .returned (.tuple #[.int .i64 (stW A x), .int .i64 (enW A x)]) ∧ Below U.heap.size U w') := fun x U hx hU => endsT_any A x m a c U (HA.out.below hU) hx
  go_upto_region 3 with fail
  go_wp2
  go_loopg [5] N (fun gk v wr => ∃ k : Nat, k ≤ N ∧ gk = N - k ∧ v = .int .i64 (k : Int) ∧ Below W0.heap.size W0 wr ∧ ∀ i, i < k → inW A (nthT L i) = true)
  case atStart => exact ⟨0, Nat.zero_le _, rfl, rfl, Below.refl _ _, fun i hi => absurd hi (Nat.not_lt_zero _)⟩
  case round =>
    obtain ⟨k, hkN, rfl, rfl, hBr, hI⟩ := hrel
    have BR := hiddenN hBr
    have HI := hiddenN hI
    clear hBr hI
    by_cases hlt : k < N
    · have hki : (k : Int) < (N : Int) := by omega
      have hkL : k < L.length := by rw [HLN.out]; exact hlt
      obtain ⟨c0, c1⟩ : wr.cell? ⟨lb, lo + k * 2, none⟩ = some (.int .i64 (nthT L k).1) ∧ wr.cell? ⟨lb, lo + k * 2 + 1, none⟩ = some (.bool (nthT L k).2) := by
        rcases HL.out.below BR.out with e | ⟨lb', lo', el, hcl⟩
        · have := HLN.out; rw [e] at this; simp at this; omega
        · cases el; exact hcl k hkL
      have HIK : Hid (inW A (nthT L k) = inW A (nthT L k)) := rfl
      obtain ⟨xx, hxx⟩ : ∃ x, nthT L k = x := ⟨_, rfl⟩
      have HXX := hiddenN hxx
      rw [hxx] at c0 c1
      clear hxx HIK
      obtain ⟨z, b⟩ := xx
      simp only at c0 c1
      clear y0 y1
      have XN := hiddenN (X0.out.below BR.out)
      have y1 := XN.out.cell (k := 1) rfl
      simp only [List.getElem_toArray, List.getElem_cons_zero, List.getElem_cons_succ] at y1
      by_cases h3 : z < 0
      · have HF : Hid (cycW A L = false) := cyc_off hkL (by rw [HXX.out]; unfold inW; simp; omega)
        go_upto_region 6 with fail
        go_quiet (fail)
        have B2 := hiddenN (BR.out.trans ((drewF wr nq).mono BR.out.size))
        generalize wr.drewN nq = V2 at *
        go_wp2
        go_ret
        exact ⟨by rw [HF.out]; rfl, B0.out.trans (B2.out.mono B0.out.size)⟩
      by_cases h4 : (A.length : Int) ≤ z
      · have HF : Hid (cycW A L = false) := cyc_off hkL (by rw [HXX.out]; unfold inW; simp; omega)
        go_upto_region 6 with fail
        go_quiet (fail)
        have B2 := hiddenN (BR.out.trans ((drewF wr nq).mono BR.out.size))
        generalize wr.drewN nq = V2 at *
        go_wp2
        go_ret
        exact ⟨by rw [HF.out]; rfl, B0.out.trans (B2.out.mono B0.out.size)⟩
      go_upto_region 6 with fail
      go_quiet (fail)
      have B2 := hiddenN (BR.out.trans ((drewF wr nq).mono BR.out.size))
      clear y1 c0 c1 XN
      generalize wr.drewN nq = V2 at *
      go_wp2
      go_roundg (N - (k + 1))
      case measure => omega
      case rel =>
        refine ⟨k + 1, by omega, rfl, by go_num, B2.out, fun i hi => ?_⟩
        by_cases e : i = k
        · rw [e, HXX.out]; exact inW_iff.2 ⟨by show 0 ≤ z; omega, by show z < _; omega⟩
        · exact HI.out i (by omega)
    have ek : N = k := by omega
    subst ek
    have hki : ¬ (N : Int) < (N : Int) := by omega
    clear y0 y1
    have XN := hiddenN (X0.out.below BR.out)
    have y0 := XN.out.cell (k := 0) rfl
    have y1 := XN.out.cell (k := 1) rfl
    simp only [List.getElem_toArray, List.getElem_cons_zero, List.getElem_cons_succ] at y0 y1
    go_upto_region 8 with fail
    generalize wr = V1 at *
    have hKL : K < L.length := by rw [HLN.out]; exact hKN
    obtain ⟨c0, c1⟩ : V1.cell? ⟨lb, lo + K * 2, none⟩ = some (.int .i64 (nthT L K).1) ∧ V1.cell? ⟨lb, lo + K * 2 + 1, none⟩ = some (.bool (nthT L K).2) := by
      rcases HL.out.below BR.out with e | ⟨lb', lo', el, hcl⟩
      · have := HLN.out; rw [e] at this; simp at this; omega
      · cases el; exact hcl K hKL
    have EN0 := hiddenN (fun U (hU : Below V1.heap.size V1 U) => EN.out (nthT L K) U (HI.out K hKN) (BR.out.trans (hU.mono BR.out.size)))
    have HQ : Hid (enW A (nthT L (preW N 0)) = enW A (nthT L K)) := by
      show _ = _
      have : preW N 0 = K := by unfold preW; rw [if_pos rfl]; have := HNK.out; omega
      rw [this]
    obtain ⟨xx, hxx⟩ : ∃ x, nthT L K = x := ⟨_, rfl⟩
    rw [hxx] at c0 c1 EN0 HQ
    clear hxx
    obtain ⟨z, b⟩ := xx
    simp only at c0 c1 EN0
    generalize stW A (z, b) = s0 at EN0
    generalize enW A (z, b) = n0 at EN0 HQ
    refine wp_region_gen [] (fun d_ i u_ z_ => match i with
        | 0 => z_ = .agg #[.int .i64 m, .slice a A.length c]
        | 1 => z_ = .slice (some ⟨lb, lo, none⟩) N lc
        | 2 => z_ = .slice (some ⟨lb, lo, none⟩) N lc
        | 3 => z_ = .int .i64 (N : Int)
        | 4 => z_ = .int .i64 (K : Int)
        | 5 => z_ = .pointer (some ⟨lb, lo + K * 2, none⟩)
        | 6 => z_ = .agg #[.int .i64 z, .bool b]
        | 7 => z_ = .tuple #[.int .i64 s0, .int .i64 n0]
        | 8 => z_ = .tuple #[.int .i64 s0, .int .i64 n0]
        | 9 => z_ = .int .i64 s0
        | 10 => z_ = .int .i64 n0
        | 11 => z_ = .int .i64 s0
        | 12 => z_ = .int .i64 n0
        | _ => True) (fun d_ u_ => Below V1.heap.size V1 u_) (by kernel_rfl) (by kernel_rfl) (by kernel_rfl) ?_ ?_ ?_ ?_ ?_ ?_ (by kernel_rfl)
    · intro d_ i w_ v_ w' h hb
      match i, h with
      | 0, h => exact h
      | 1, h => exact h
      | 2, h => exact h
      | 3, h => exact h
      | 4, h => exact h
      | 5, h => exact h
      | 6, h => exact h
      | 7, h => exact h
      | 8, h => exact h
      | 9, h => exact h
      | 10, h => exact h
      | 11, h => exact h
      | 12, h => exact h
      | _ + 13, _ => trivial
    · intro d_ u_ u' h hb
      exact h.trans (hb.mono h.size)
    · exact Below.refl _ _
    · intro d_ i o ρ w' hm ho hf hg hC hcs hfs hfr hdep
      match i, hm, ho, hf, hg, hfr, hdep with
      | 0, _, ho, hf, hg, hfr, hdep =>
        simp only [gTA, gCZ, gSI] at ho
        subst ho
        refine ⟨fun _ => ?_, fun hw => absurd (show true = false from hw) (by decide)⟩
        have ts : ρ (.tmp 2) = .pointer (some ⟨w.heap.size, 0, none⟩) := hfr 2 (by kernel_rfl)
        have k0 := cellN_later hC y0
        have k1 := cellN_later hC y1
        simp [go_sem, ts, k0, k1]
        exact ⟨Below.refl _ _, rfl⟩
      | 1, _, ho, hf, hg, hfr, hdep =>
        simp only [gTA, gCZ, gCS, gSI] at ho
        subst ho
        refine ⟨fun _ => ?_, fun hw => absurd (show true = false from hw) (by decide)⟩
        have ts : ρ (.tmp 1) = .slice (some ⟨lb, lo, none⟩) N lc := hfr 1 (by kernel_rfl)
        simp [go_sem, ts]
        exact ⟨Below.refl _ _, rfl⟩
      | 2, _, ho, hf, hg, hfr, hdep =>
        simp only [gTA, gCZ, gCS, gSI] at ho
        subst ho
        refine ⟨fun _ => ?_, fun hw => absurd (show true = false from hw) (by decide)⟩
        have ts : ρ (.tmp 1) = .slice (some ⟨lb, lo, none⟩) N lc := hfr 1 (by kernel_rfl)
        simp [go_sem, ts]
        exact ⟨Below.refl _ _, rfl⟩
      | 3, _, ho, hf, hg, hfr, hdep =>
        simp only [gTA, gCZ, gCS, gSI] at ho
        subst ho
        refine ⟨fun _ => ?_, fun hw => absurd (show true = false from hw) (by decide)⟩
        have d0 : ρ (.tmp 51) = .slice (some ⟨lb, lo, none⟩) N lc := hdep 2 51 (by kernel_rfl) (by kernel_rfl)
        simp [go_sem, d0]
        exact ⟨Below.refl _ _, rfl⟩
      | 4, _, ho, hf, hg, hfr, hdep =>
        simp only [gTA, gCZ, gCS, gSI] at ho
        subst ho
        refine ⟨fun _ => ?_, fun hw => absurd (show true = false from hw) (by decide)⟩
        have d0 : ρ (.tmp 52) = .int .i64 (N : Int) := hdep 3 52 (by kernel_rfl) (by kernel_rfl)
        simp [go_sem, d0, hwK, hcs]
        exact ⟨Below.refl _ _, rfl⟩
      | 5, _, ho, hf, hg, hfr, hdep =>
        simp only [gTA, gCZ, gCS, gSI] at ho
        subst ho
        refine ⟨fun _ => ?_, fun hw => absurd (show true = false from hw) (by decide)⟩
        have d0 : ρ (.tmp 50) = .slice (some ⟨lb, lo, none⟩) N lc := hdep 1 50 (by kernel_rfl) (by kernel_rfl)
        have d1 : ρ (.tmp 53) = .int .i64 (K : Int) := hdep 4 53 (by kernel_rfl) (by kernel_rfl)
        simp [go_sem, d0, d1, hKN]
        exact ⟨Below.refl _ _, rfl⟩
      | 6, _, ho, hf, hg, hfr, hdep =>
        simp only [gTA, gCZ, gCS, gSI] at ho
        subst ho
        refine ⟨fun _ => ?_, fun hw => absurd (show true = false from hw) (by decide)⟩
        have k0 := cellN_later hC c0
        have k1 := cellN_later hC c1
        have d0 : ρ (.tmp 54) = .pointer (some ⟨lb, lo + K * 2, none⟩) := hdep 5 54 (by kernel_rfl) (by kernel_rfl)
        simp [go_sem, d0, k0, k1]
        exact ⟨Below.refl _ _, rfl⟩
      | 7, _, ho, hf, hg, hfr, hdep =>
        simp only [gTA, gCZ, gCS, gSI] at ho
        subst ho
        refine ⟨fun _ => ?_, fun hw => absurd (show true = false from hw) (by decide)⟩
        have t0 : ρ (.tmp 49) = .agg #[.int .i64 m, .slice a A.length c] := hdep 0 49 (by kernel_rfl) (by kernel_rfl)
        have t1 : ρ (.tmp 55) = .agg #[.int .i64 z, .bool b] := hdep 6 55 (by kernel_rfl) (by kernel_rfl)
        simp [go_sem, t0, t1, hfs]
        exact ⟨rfl, (EN0.out w' hC).mono fun e' w'' hh => ⟨_, hh.1, hh.2, rfl⟩⟩
      | 8, _, ho, hf, hg, hfr, hdep =>
        simp only [gTA, gCZ, gCS, gSI] at ho
        subst ho
        refine ⟨fun _ => ?_, fun hw => absurd (show true = false from hw) (by decide)⟩
        have d0 : ρ (.tmp 56) = .tuple #[.int .i64 s0, .int .i64 n0] := hdep 7 56 (by kernel_rfl) (by kernel_rfl)
        simp [go_sem, d0]
        exact ⟨Below.refl _ _, rfl⟩
      | 9, _, ho, hf, hg, hfr, hdep =>
        simp only [gTA, gCZ, gCS, gSI] at ho
        subst ho
        refine ⟨fun _ => ?_, fun hw => absurd (show true = false from hw) (by decide)⟩
        have d0 : ρ (.tmp 48) = .tuple #[.int .i64 s0, .int .i64 n0] := hdep 8 48 (by kernel_rfl) (by kernel_rfl)
        simp [go_sem, d0]
        exact ⟨Below.refl _ _, rfl⟩
      | 10, _, ho, hf, hg, hfr, hdep =>
        simp only [gTA, gCZ, gCS, gSI] at ho
        subst ho
        refine ⟨fun _ => ?_, fun hw => absurd (show true = false from hw) (by decide)⟩
        have d0 : ρ (.tmp 48) = .tuple #[.int .i64 s0, .int .i64 n0] := hdep 8 48 (by kernel_rfl) (by kernel_rfl)
        simp [go_sem, d0]
        exact ⟨Below.refl _ _, rfl⟩
      | 11, _, ho, hf, hg, hfr, hdep =>
        simp only [gTA, gCZ, gCS, gSI] at ho
        subst ho
        refine ⟨fun _ => ?_, fun hw => absurd (show true = false from hw) (by decide)⟩
        have d0 : ρ (.tmp 57) = .int .i64 s0 := hdep 9 57 (by kernel_rfl) (by kernel_rfl)
        simp [go_sem, d0]
        exact ⟨Below.refl _ _, rfl⟩
      | 12, _, ho, hf, hg, hfr, hdep =>
        simp only [gTA, gCZ, gCS, gSI] at ho
        subst ho
        refine ⟨fun _ => ?_, fun hw => absurd (show true = false from hw) (by decide)⟩
        have d0 : ρ (.tmp 58) = .int .i64 n0 := hdep 10 58 (by kernel_rfl) (by kernel_rfl)
        simp [go_sem, d0]
        exact ⟨Below.refl _ _, rfl⟩
      | n + 13, _, ho, _, _, _, _ => simp at ho
    · intro d_ i o ρ w' hm ho h0 hf hg hC hcs hfs hfr hdep
      exact absurd hm (by simp)
    · intro U2 V2 hC2 hS
      have e0 : U2 0 = .agg #[.int .i64 m, .slice a A.length c] := hS 0 (by decide) (by intro h; cases h)
      have e1 : U2 1 = .slice (some ⟨lb, lo, none⟩) N lc := hS 1 (by decide) (by intro h; cases h)
      have e2 : U2 2 = .slice (some ⟨lb, lo, none⟩) N lc := hS 2 (by decide) (by intro h; cases h)
      have e3 : U2 3 = .int .i64 (N : Int) := hS 3 (by decide) (by intro h; cases h)
      have e4 : U2 4 = .int .i64 (K : Int) := hS 4 (by decide) (by intro h; cases h)
      have e5 : U2 5 = .pointer (some ⟨lb, lo + K * 2, none⟩) := hS 5 (by decide) (by intro h; cases h)
      have e6 : U2 6 = .agg #[.int .i64 z, .bool b] := hS 6 (by decide) (by intro h; cases h)
      have e7 : U2 7 = .tuple #[.int .i64 s0, .int .i64 n0] := hS 7 (by decide) (by intro h; cases h)
      have e8 : U2 8 = .tuple #[.int .i64 s0, .int .i64 n0] := hS 8 (by decide) (by intro h; cases h)
      have e9 : U2 9 = .int .i64 s0 := hS 9 (by decide) (by intro h; cases h)
      have e10 : U2 10 = .int .i64 n0 := hS 10 (by decide) (by intro h; cases h)
      have e11 : U2 11 = .int .i64 s0 := hS 11 (by decide) (by intro h; cases h)
      have e12 : U2 12 = .int .i64 n0 := hS 12 (by decide) (by intro h; cases h)
      simp only [puts, e0, e1, e2, e3, e4, e5, e6, e7, e8, e9, e10, e11, e12]
      simp only [Act.put, List.setIfInBounds_toArray, List.set_cons_zero, List.set_cons_succ]
      clear hS e0 e1 e2 e3 e4 e5 e6 e7 e8 e9 e10 e11 e12
      have B2 := hiddenN (BR.out.trans (hC2.mono BR.out.size))
      clear EN0 c0 c1 y0 y1
      go_wp2
      go_loopg [7, 8] N (fun gk u7 u8 wz => ∃ k : Nat, k ≤ N ∧ gk = N - k ∧ u7 = .int .i64 (enW A (nthT L (preW N k))) ∧ u8 = .int .i64 (k : Int) ∧ Below W0.heap.size W0 wz ∧ (∀ i, i < k → lkW A L i = true) ∧ ∀ i, i < k → frW A L i = true)
      case atStart => exact ⟨0, Nat.zero_le _, rfl, by rw [HQ.out], rfl, B2.out, fun i hi => absurd hi (Nat.not_lt_zero _), fun i hi => absurd hi (Nat.not_lt_zero _)⟩
      case round =>
        obtain ⟨k, hkN, rfl, rfl, rfl, hBz, hJ1, hJ2⟩ := hrel
        have BZ := hiddenN hBz
        have J1 := hiddenN hJ1
        have J2 := hiddenN hJ2
        clear hBz hJ1 hJ2 HQ
        by_cases hlt : k < N
        · have hki : (k : Int) < (N : Int) := by omega
          have hkL : k < L.length := by rw [HLN.out]; exact hlt
          generalize wr = V3 at *
          obtain ⟨c0, c1⟩ : V3.cell? ⟨lb, lo + k * 2, none⟩ = some (.int .i64 (nthT L k).1) ∧ V3.cell? ⟨lb, lo + k * 2 + 1, none⟩ = some (.bool (nthT L k).2) := by
            rcases HL.out.below BZ.out with e | ⟨lb', lo', el, hcl⟩
            · have := HLN.out; rw [e] at this; simp at this; omega
            · cases el; exact hcl k hkL
          have XN := hiddenN (X0.out.below BZ.out)
          have y0 := XN.out.cell (k := 0) rfl
          have y1 := XN.out.cell (k := 1) rfl
          simp only [List.getElem_toArray, List.getElem_cons_zero, List.getElem_cons_succ] at y0 y1
          have EN1 := hiddenN (fun U (hU : Below V3.heap.size V3 U) => EN.out (nthT L k) U (HI.out k hlt) (BZ.out.trans (hU.mono BZ.out.size)))
          have HLK : Hid (lkW A L k = decide (stW A (nthT L k) = enW A (nthT L (preW N k)))) := by show _ = _; unfold lkW; rw [HLN.out]
          have HEN : Hid (enW A (nthT L (preW N (k + 1))) = enW A (nthT L k)) := rfl
          have HSK : Hid (stW A (nthT L k) = stW A (nthT L k)) := rfl
          obtain ⟨xx, hxx⟩ : ∃ x, nthT L k = x := ⟨_, rfl⟩
          have HX1 := hiddenN hxx
          rw [hxx] at c0 c1 EN1 HLK HEN
          obtain ⟨z1, b1⟩ := xx
          simp only at c0 c1 EN1
          have HS1 : Hid (stW A (nthT L k) = stW A (z1, b1)) := by show _ = _; rw [hxx]
          clear hxx HSK
          generalize stW A (z1, b1) = s1 at EN1 HLK HS1
          generalize enW A (z1, b1) = n1 at EN1 HEN
          generalize enW A (nthT L (preW N k)) = at0 at *
          go_upto_region 12 with fail
          refine wp_region_gen [] (fun d_ i u_ z_ => match i with
              | 0 => z_ = .agg #[.int .i64 m, .slice a A.length c]
              | 1 => z_ = .slice (some ⟨lb, lo, none⟩) N lc
              | 2 => z_ = .int .i64 (k : Int)
              | 3 => z_ = .pointer (some ⟨lb, lo + k * 2, none⟩)
              | 4 => z_ = .agg #[.int .i64 z1, .bool b1]
              | 5 => z_ = .tuple #[.int .i64 s1, .int .i64 n1]
              | 6 => z_ = .tuple #[.int .i64 s1, .int .i64 n1]
              | 7 => z_ = .int .i64 s1
              | 8 => z_ = .int .i64 n1
              | 9 => z_ = .int .i64 s1
              | 10 => z_ = .int .i64 n1
              | _ => True) (fun d_ u_ => Below V3.heap.size V3 u_) (by kernel_rfl) (by kernel_rfl) (by kernel_rfl) ?_ ?_ ?_ ?_ ?_ ?_ (by kernel_rfl)
          · intro d_ i w_ v_ w' h hb
            match i, h with
            | 0, h => exact h
            | 1, h => exact h
            | 2, h => exact h
            | 3, h => exact h
            | 4, h => exact h
            | 5, h => exact h
            | 6, h => exact h
            | 7, h => exact h
            | 8, h => exact h
            | 9, h => exact h
            | 10, h => exact h
            | _ + 11, _ => trivial
          · intro d_ u_ u' h hb
            exact h.trans (hb.mono h.size)
          · exact Below.refl _ _
          · intro d_ i o ρ w' hm ho hf hg hC hcs hfs hfr hdep
            match i, hm, ho, hf, hg, hfr, hdep with
            | 0, _, ho, hf, hg, hfr, hdep =>
              simp only [gTA, gCZ, gSI] at ho
              subst ho
              refine ⟨fun _ => ?_, fun hw => absurd (show true = false from hw) (by decide)⟩
              have ts : ρ (.tmp 2) = .pointer (some ⟨w.heap.size, 0, none⟩) := hfr 2 (by kernel_rfl)
              have k0 := cellN_later hC y0
              have k1 := cellN_later hC y1
              simp [go_sem, ts, k0, k1]
              exact ⟨Below.refl _ _, rfl⟩
            | 1, _, ho, hf, hg, hfr, hdep =>
              simp only [gTA, gCZ, gCS, gSI] at ho
              subst ho
              refine ⟨fun _ => ?_, fun hw => absurd (show true = false from hw) (by decide)⟩
              have ts : ρ (.tmp 1) = .slice (some ⟨lb, lo, none⟩) N lc := hfr 1 (by kernel_rfl)
              simp [go_sem, ts]
              exact ⟨Below.refl _ _, rfl⟩
            | 2, _, ho, hf, hg, hfr, hdep =>
              simp only [gTA, gCZ, gCS, gSI] at ho
              subst ho
              refine ⟨fun _ => ?_, fun hw => absurd (show true = false from hw) (by decide)⟩
              have ts : ρ (.tmp 8) = .int .i64 (k : Int) := hfr 8 (by kernel_rfl)
              simp [go_sem, ts]
              exact ⟨Below.refl _ _, rfl⟩
            | 3, _, ho, hf, hg, hfr, hdep =>
              simp only [gTA, gCZ, gCS, gSI] at ho
              subst ho
              refine ⟨fun _ => ?_, fun hw => absurd (show true = false from hw) (by decide)⟩
              have d0 : ρ (.tmp 67) = .slice (some ⟨lb, lo, none⟩) N lc := hdep 1 67 (by kernel_rfl) (by kernel_rfl)
              have d1 : ρ (.tmp 68) = .int .i64 (k : Int) := hdep 2 68 (by kernel_rfl) (by kernel_rfl)
              simp [go_sem, d0, d1, hlt]
              exact ⟨Below.refl _ _, rfl⟩
            | 4, _, ho, hf, hg, hfr, hdep =>
              simp only [gTA, gCZ, gCS, gSI] at ho
              subst ho
              refine ⟨fun _ => ?_, fun hw => absurd (show true = false from hw) (by decide)⟩
              have k0 := cellN_later hC c0
              have k1 := cellN_later hC c1
              have d0 : ρ (.tmp 69) = .pointer (some ⟨lb, lo + k * 2, none⟩) := hdep 3 69 (by kernel_rfl) (by kernel_rfl)
              simp [go_sem, d0, k0, k1]
              exact ⟨Below.refl _ _, rfl⟩
            | 5, _, ho, hf, hg, hfr, hdep =>
              simp only [gTA, gCZ, gCS, gSI] at ho
              subst ho
              refine ⟨fun _ => ?_, fun hw => absurd (show true = false from hw) (by decide)⟩
              have t0 : ρ (.tmp 66) = .agg #[.int .i64 m, .slice a A.length c] := hdep 0 66 (by kernel_rfl) (by kernel_rfl)
              have t1 : ρ (.tmp 70) = .agg #[.int .i64 z1, .bool b1] := hdep 4 70 (by kernel_rfl) (by kernel_rfl)
              simp [go_sem, t0, t1, hfs]
              exact ⟨rfl, (EN1.out w' hC).mono fun e' w'' hh => ⟨_, hh.1, hh.2, rfl⟩⟩
            | 6, _, ho, hf, hg, hfr, hdep =>
              simp only [gTA, gCZ, gCS, gSI] at ho
              subst ho
              refine ⟨fun _ => ?_, fun hw => absurd (show true = false from hw) (by decide)⟩
              have d0 : ρ (.tmp 71) = .tuple #[.int .i64 s1, .int .i64 n1] := hdep 5 71 (by kernel_rfl) (by kernel_rfl)
              simp [go_sem, d0]
              exact ⟨Below.refl _ _, rfl⟩
            | 7, _, ho, hf, hg, hfr, hdep =>
              simp only [gTA, gCZ, gCS, gSI] at ho
              subst ho
              refine ⟨fun _ => ?_, fun hw => absurd (show true = false from hw) (by decide)⟩
              have d0 : ρ (.tmp 65) = .tuple #[.int .i64 s1, .int .i64 n1] := hdep 6 65 (by kernel_rfl) (by kernel_rfl)
              simp [go_sem, d0]
              exact ⟨Below.refl _ _, rfl⟩
            | 8, _, ho, hf, hg, hfr, hdep =>
              simp only [gTA, gCZ, gCS, gSI] at ho
              subst ho
              refine ⟨fun _ => ?_, fun hw => absurd (show true = false from hw) (by decide)⟩
              have d0 : ρ (.tmp 65) = .tuple #[.int .i64 s1, .int .i64 n1] := hdep 6 65 (by kernel_rfl) (by kernel_rfl)
              simp [go_sem, d0]
              exact ⟨Below.refl _ _, rfl⟩
            | 9, _, ho, hf, hg, hfr, hdep =>
              simp only [gTA, gCZ, gCS, gSI] at ho
              subst ho
              refine ⟨fun _ => ?_, fun hw => absurd (show true = false from hw) (by decide)⟩
              have d0 : ρ (.tmp 72) = .int .i64 s1 := hdep 7 72 (by kernel_rfl) (by kernel_rfl)
              simp [go_sem, d0]
              exact ⟨Below.refl _ _, rfl⟩
            | 10, _, ho, hf, hg, hfr, hdep =>
              simp only [gTA, gCZ, gCS, gSI] at ho
              subst ho
              refine ⟨fun _ => ?_, fun hw => absurd (show true = false from hw) (by decide)⟩
              have d0 : ρ (.tmp 73) = .int .i64 n1 := hdep 8 73 (by kernel_rfl) (by kernel_rfl)
              simp [go_sem, d0]
              exact ⟨Below.refl _ _, rfl⟩
            | n + 11, _, ho, _, _, _, _ => simp at ho
          · intro d_ i o ρ w' hm ho h0 hf hg hC hcs hfs hfr hdep
            exact absurd hm (by simp)
          · intro U4 V4 hC4 hS
            have e0 : U4 0 = .agg #[.int .i64 m, .slice a A.length c] := hS 0 (by decide) (by intro h; cases h)
            have e1 : U4 1 = .slice (some ⟨lb, lo, none⟩) N lc := hS 1 (by decide) (by intro h; cases h)
            have e2 : U4 2 = .int .i64 (k : Int) := hS 2 (by decide) (by intro h; cases h)
            have e3 : U4 3 = .pointer (some ⟨lb, lo + k * 2, none⟩) := hS 3 (by decide) (by intro h; cases h)
            have e4 : U4 4 = .agg #[.int .i64 z1, .bool b1] := hS 4 (by decide) (by intro h; cases h)
            have e5 : U4 5 = .tuple #[.int .i64 s1, .int .i64 n1] := hS 5 (by decide) (by intro h; cases h)
            have e6 : U4 6 = .tuple #[.int .i64 s1, .int .i64 n1] := hS 6 (by decide) (by intro h; cases h)
            have e7 : U4 7 = .int .i64 s1 := hS 7 (by decide) (by intro h; cases h)
            have e8 : U4 8 = .int .i64 n1 := hS 8 (by decide) (by intro h; cases h)
            have e9 : U4 9 = .int .i64 s1 := hS 9 (by decide) (by intro h; cases h)
            have e10 : U4 10 = .int .i64 n1 := hS 10 (by decide) (by intro h; cases h)
            simp only [puts, e0, e1, e2, e3, e4, e5, e6, e7, e8, e9, e10]
            simp only [Act.put, List.setIfInBounds_toArray, List.set_cons_zero, List.set_cons_succ]
            clear hS e0 e1 e2 e3 e4 e5 e6 e7 e8 e9 e10
            have B4 := hiddenN (BZ.out.trans (hC4.mono BZ.out.size))
            clear EN1 c0 c1 y0 y1 XN
            by_cases he : s1 = at0
            case neg =>
              have hne : (s1 != at0) = true := by simpa using he
              have HF : Hid (cycW A L = false) := cyc_away hkL (by rw [HLK.out]; exact decide_eq_false he)
              go_wp2
              go_ret
              exact ⟨by rw [HF.out]; rfl, B0.out.trans (B4.out.mono B0.out.size)⟩
            have hne : (s1 != at0) = false := by simpa using he
            go_wp2
            go_loopg [11] k (fun gk u11 wz => ∃ q : Nat, q ≤ k ∧ gk = k - q ∧ u11 = .int .i64 (q : Int) ∧ Below W0.heap.size W0 wz ∧ ∀ i, i < q → paW A (nthT L k) (nthT L i) = false)
            case atStart => exact ⟨0, Nat.zero_le _, rfl, rfl, B4.out, fun i hi => absurd hi (Nat.not_lt_zero _)⟩
            case round =>
              obtain ⟨q, hqk, rfl, rfl, hBq, hP⟩ := hrel
              have BQ := hiddenN hBq
              have HP := hiddenN hP
              clear hBq hP
              by_cases hlq : q < k
              · have hqi : (q : Int) < (k : Int) := by omega
                have hqN : q < N := by omega
                have hqL : q < L.length := by rw [HLN.out]; exact hqN
                generalize wr = V5 at *
                obtain ⟨k0', k1'⟩ : V5.cell? ⟨lb, lo + k * 2, none⟩ = some (.int .i64 (nthT L k).1) ∧ V5.cell? ⟨lb, lo + k * 2 + 1, none⟩ = some (.bool (nthT L k).2) := by
                  rcases HL.out.below BQ.out with e | ⟨lb', lo', el, hcl⟩
                  · have := HLN.out; rw [e] at this; simp at this; omega
                  · cases el; exact hcl k hkL
                obtain ⟨c0, c1⟩ : V5.cell? ⟨lb, lo + q * 2, none⟩ = some (.int .i64 (nthT L q).1) ∧ V5.cell? ⟨lb, lo + q * 2 + 1, none⟩ = some (.bool (nthT L q).2) := by
                  rcases HL.out.below BQ.out with e | ⟨lb', lo', el, hcl⟩
                  · have := HLN.out; rw [e] at this; simp at this; omega
                  · cases el; exact hcl q hqL
                rw [HX1.out] at k0' k1'
                simp only at k0' k1'
                have XN := hiddenN (X0.out.below BQ.out)
                have y0 := XN.out.cell (k := 0) rfl
                have y1 := XN.out.cell (k := 1) rfl
                simp only [List.getElem_toArray, List.getElem_cons_zero, List.getElem_cons_succ] at y0 y1
                have EN2 := hiddenN (fun U (hU : Below V5.heap.size V5 U) => EN.out (nthT L q) U (HI.out q hqN) (BQ.out.trans (hU.mono BQ.out.size)))
                obtain ⟨xx, hxx⟩ : ∃ x, nthT L q = x := ⟨_, rfl⟩
                have HX2 := hiddenN hxx
                rw [hxx] at c0 c1 EN2
                obtain ⟨z2, b2⟩ := xx
                simp only at c0 c1 EN2
                have HS2 : Hid (stW A (nthT L q) = stW A (z2, b2)) := by show _ = _; rw [hxx]
                clear hxx
                generalize stW A (z2, b2) = s2 at EN2 HS2
                generalize enW A (z2, b2) = n2 at EN2
                have HPA : Hid (paW A (nthT L k) (nthT L q) = (decide (z1 = z2) || decide (s1 = s2))) := by
                  show _ = _
                  unfold paW
                  rw [HS1.out, HS2.out, HX1.out, HX2.out]
                go_upto_region 19 with fail
                refine wp_region_gen [] (fun d_ i u_ z_ => match i with
                    | 0 => z_ = .agg #[.int .i64 m, .slice a A.length c]
                    | 1 => z_ = .slice (some ⟨lb, lo, none⟩) N lc
                    | 2 => z_ = .int .i64 (q : Int)
                    | 3 => z_ = .pointer (some ⟨lb, lo + q * 2, none⟩)
                    | 4 => z_ = .agg #[.int .i64 z2, .bool b2]
                    | 5 => z_ = .tuple #[.int .i64 s2, .int .i64 n2]
                    | 6 => z_ = .tuple #[.int .i64 s2, .int .i64 n2]
                    | 7 => z_ = .int .i64 s2
                    | 8 => z_ = .int .i64 n2
                    | 9 => z_ = .int .i64 s2
                    | 10 => z_ = .int .i64 n2
                    | _ => True) (fun d_ u_ => Below V5.heap.size V5 u_) (by kernel_rfl) (by kernel_rfl) (by kernel_rfl) ?_ ?_ ?_ ?_ ?_ ?_ (by kernel_rfl)
                · intro d_ i w_ v_ w' h hb
                  match i, h with
                  | 0, h => exact h
                  | 1, h => exact h
                  | 2, h => exact h
                  | 3, h => exact h
                  | 4, h => exact h
                  | 5, h => exact h
                  | 6, h => exact h
                  | 7, h => exact h
                  | 8, h => exact h
                  | 9, h => exact h
                  | 10, h => exact h
                  | _ + 11, _ => trivial
                · intro d_ u_ u' h hb
                  exact h.trans (hb.mono h.size)
                · exact Below.refl _ _
                · intro d_ i o ρ w' hm ho hf hg hC hcs hfs hfr hdep
                  match i, hm, ho, hf, hg, hfr, hdep with
                  | 0, _, ho, hf, hg, hfr, hdep =>
                    simp only [gTA, gCZ, gSI] at ho
                    subst ho
                    refine ⟨fun _ => ?_, fun hw => absurd (show true = false from hw) (by decide)⟩
                    have ts : ρ (.tmp 2) = .pointer (some ⟨w.heap.size, 0, none⟩) := hfr 2 (by kernel_rfl)
                    have k0 := cellN_later hC y0
                    have k1 := cellN_later hC y1
                    simp [go_sem, ts, k0, k1]
                    exact ⟨Below.refl _ _, rfl⟩
                  | 1, _, ho, hf, hg, hfr, hdep =>
                    simp only [gTA, gCZ, gCS, gSI] at ho
                    subst ho
                    refine ⟨fun _ => ?_, fun hw => absurd (show true = false from hw) (by decide)⟩
                    have ts : ρ (.tmp 1) = .slice (some ⟨lb, lo, none⟩) N lc := hfr 1 (by kernel_rfl)
                    simp [go_sem, ts]
                    exact ⟨Below.refl _ _, rfl⟩
                  | 2, _, ho, hf, hg, hfr, hdep =>
                    simp only [gTA, gCZ, gCS, gSI] at ho
                    subst ho
                    refine ⟨fun _ => ?_, fun hw => absurd (show true = false from hw) (by decide)⟩
                    have ts : ρ (.tmp 11) = .int .i64 (q : Int) := hfr 11 (by kernel_rfl)
                    simp [go_sem, ts]
                    exact ⟨Below.refl _ _, rfl⟩
                  | 3, _, ho, hf, hg, hfr, hdep =>
                    simp only [gTA, gCZ, gCS, gSI] at ho
                    subst ho
                    refine ⟨fun _ => ?_, fun hw => absurd (show true = false from hw) (by decide)⟩
                    have d0 : ρ (.tmp 85) = .slice (some ⟨lb, lo, none⟩) N lc := hdep 1 85 (by kernel_rfl) (by kernel_rfl)
                    have d1 : ρ (.tmp 86) = .int .i64 (q : Int) := hdep 2 86 (by kernel_rfl) (by kernel_rfl)
                    simp [go_sem, d0, d1, hqN]
                    exact ⟨Below.refl _ _, rfl⟩
                  | 4, _, ho, hf, hg, hfr, hdep =>
                    simp only [gTA, gCZ, gCS, gSI] at ho
                    subst ho
                    refine ⟨fun _ => ?_, fun hw => absurd (show true = false from hw) (by decide)⟩
                    have k0 := cellN_later hC c0
                    have k1 := cellN_later hC c1
                    have d0 : ρ (.tmp 87) = .pointer (some ⟨lb, lo + q * 2, none⟩) := hdep 3 87 (by kernel_rfl) (by kernel_rfl)
                    simp [go_sem, d0, k0, k1]
                    exact ⟨Below.refl _ _, rfl⟩
                  | 5, _, ho, hf, hg, hfr, hdep =>
                    simp only [gTA, gCZ, gCS, gSI] at ho
                    subst ho
                    refine ⟨fun _ => ?_, fun hw => absurd (show true = false from hw) (by decide)⟩
                    have t0 : ρ (.tmp 84) = .agg #[.int .i64 m, .slice a A.length c] := hdep 0 84 (by kernel_rfl) (by kernel_rfl)
                    have t1 : ρ (.tmp 88) = .agg #[.int .i64 z2, .bool b2] := hdep 4 88 (by kernel_rfl) (by kernel_rfl)
                    simp [go_sem, t0, t1, hfs]
                    exact ⟨rfl, (EN2.out w' hC).mono fun e' w'' hh => ⟨_, hh.1, hh.2, rfl⟩⟩
                  | 6, _, ho, hf, hg, hfr, hdep =>
                    simp only [gTA, gCZ, gCS, gSI] at ho
                    subst ho
                    refine ⟨fun _ => ?_, fun hw => absurd (show true = false from hw) (by decide)⟩
                    have d0 : ρ (.tmp 89) = .tuple #[.int .i64 s2, .int .i64 n2] := hdep 5 89 (by kernel_rfl) (by kernel_rfl)
                    simp [go_sem, d0]
                    exact ⟨Below.refl _ _, rfl⟩
                  | 7, _, ho, hf, hg, hfr, hdep =>
                    simp only [gTA, gCZ, gCS, gSI] at ho
                    subst ho
                    refine ⟨fun _ => ?_, fun hw => absurd (show true = false from hw) (by decide)⟩
                    have d0 : ρ (.tmp 83) = .tuple #[.int .i64 s2, .int .i64 n2] := hdep 6 83 (by kernel_rfl) (by kernel_rfl)
                    simp [go_sem, d0]
                    exact ⟨Below.refl _ _, rfl⟩
                  | 8, _, ho, hf, hg, hfr, hdep =>
                    simp only [gTA, gCZ, gCS, gSI] at ho
                    subst ho
                    refine ⟨fun _ => ?_, fun hw => absurd (show true = false from hw) (by decide)⟩
                    have d0 : ρ (.tmp 83) = .tuple #[.int .i64 s2, .int .i64 n2] := hdep 6 83 (by kernel_rfl) (by kernel_rfl)
                    simp [go_sem, d0]
                    exact ⟨Below.refl _ _, rfl⟩
                  | 9, _, ho, hf, hg, hfr, hdep =>
                    simp only [gTA, gCZ, gCS, gSI] at ho
                    subst ho
                    refine ⟨fun _ => ?_, fun hw => absurd (show true = false from hw) (by decide)⟩
                    have d0 : ρ (.tmp 90) = .int .i64 s2 := hdep 7 90 (by kernel_rfl) (by kernel_rfl)
                    simp [go_sem, d0]
                    exact ⟨Below.refl _ _, rfl⟩
                  | 10, _, ho, hf, hg, hfr, hdep =>
                    simp only [gTA, gCZ, gCS, gSI] at ho
                    subst ho
                    refine ⟨fun _ => ?_, fun hw => absurd (show true = false from hw) (by decide)⟩
                    have d0 : ρ (.tmp 91) = .int .i64 n2 := hdep 8 91 (by kernel_rfl) (by kernel_rfl)
                    simp [go_sem, d0]
                    exact ⟨Below.refl _ _, rfl⟩
                  | n + 11, _, ho, _, _, _, _ => simp at ho
                · intro d_ i o ρ w' hm ho h0 hf hg hC hcs hfs hfr hdep
                  exact absurd hm (by simp)
                · intro U6 V6 hC6 hS
                  have e0 : U6 0 = .agg #[.int .i64 m, .slice a A.length c] := hS 0 (by decide) (by intro h; cases h)
                  have e1 : U6 1 = .slice (some ⟨lb, lo, none⟩) N lc := hS 1 (by decide) (by intro h; cases h)
                  have e2 : U6 2 = .int .i64 (q : Int) := hS 2 (by decide) (by intro h; cases h)
                  have e3 : U6 3 = .pointer (some ⟨lb, lo + q * 2, none⟩) := hS 3 (by decide) (by intro h; cases h)
                  have e4 : U6 4 = .agg #[.int .i64 z2, .bool b2] := hS 4 (by decide) (by intro h; cases h)
                  have e5 : U6 5 = .tuple #[.int .i64 s2, .int .i64 n2] := hS 5 (by decide) (by intro h; cases h)
                  have e6 : U6 6 = .tuple #[.int .i64 s2, .int .i64 n2] := hS 6 (by decide) (by intro h; cases h)
                  have e7 : U6 7 = .int .i64 s2 := hS 7 (by decide) (by intro h; cases h)
                  have e8 : U6 8 = .int .i64 n2 := hS 8 (by decide) (by intro h; cases h)
                  have e9 : U6 9 = .int .i64 s2 := hS 9 (by decide) (by intro h; cases h)
                  have e10 : U6 10 = .int .i64 n2 := hS 10 (by decide) (by intro h; cases h)
                  simp only [puts, e0, e1, e2, e3, e4, e5, e6, e7, e8, e9, e10]
                  simp only [Act.put, List.setIfInBounds_toArray, List.set_cons_zero, List.set_cons_succ]
                  clear hS e0 e1 e2 e3 e4 e5 e6 e7 e8 e9 e10
                  have B6 := hiddenN (BQ.out.trans (hC6.mono BQ.out.size))
                  have d0 := cellN_later hC6 k0'
                  have f0 := cellN_later hC6 c0
                  clear EN2 c0 c1 k0' k1' y0 y1 XN
                  by_cases hz : z2 = z1
                  · have hzz : (z2 == z1) = true := by simpa using hz
                    have HF : Hid (cycW A L = false) := cyc_twice hkL hlq (by rw [HPA.out, decide_eq_true hz.symm]; rfl)
                    go_upto_region 20 with fail
                    go_quiet (fail)
                    have B7 := hiddenN (B6.out.trans ((drewF V6 nq).mono B6.out.size))
                    generalize V6.drewN nq = V7 at *
                    go_wp2
                    go_ret
                    exact ⟨by rw [HF.out]; rfl, B0.out.trans (B7.out.mono B0.out.size)⟩
                  have hzz : (z2 == z1) = false := by simpa using hz
                  by_cases hs : s2 = s1
                  · have hss : (s2 == s1) = true := by simpa using hs
                    have HF : Hid (cycW A L = false) := cyc_twice hkL hlq (by rw [HPA.out, decide_eq_true hs.symm, Bool.or_true])
                    go_upto_region 20 with fail
                    go_quiet (fail)
                    have B7 := hiddenN (B6.out.trans ((drewF V6 nq).mono B6.out.size))
                    generalize V6.drewN nq = V7 at *
                    go_wp2
                    go_ret
                    exact ⟨by rw [HF.out]; rfl, B0.out.trans (B7.out.mono B0.out.size)⟩
                  have hss : (s2 == s1) = false := by simpa using hs
                  go_upto_region 20 with fail
                  go_quiet (fail)
                  have B7 := hiddenN (B6.out.trans ((drewF V6 nq).mono B6.out.size))
                  clear d0 f0
                  generalize V6.drewN nq = V7 at *
                  go_wp2
                  go_roundg (k - (q + 1))
                  case measure => omega
                  case rel =>
                    refine ⟨q + 1, by omega, rfl, by go_num, B7.out, fun i hi => ?_⟩
                    by_cases e : i = q
                    · rw [e, HPA.out, decide_eq_false (fun x => hz x.symm), decide_eq_false (fun x => hs x.symm)]; rfl
                    · exact HP.out i (by omega)
              have eq' : k = q := by omega
              subst eq'
              have hqi : ¬ (k : Int) < (k : Int) := by omega
              go_wp2
              go_roundg (N - (k + 1))
              case measure => omega
              case rel =>
                refine ⟨k + 1, by omega, rfl, by rw [HEN.out], by go_num, BQ.out, fun i hi => ?_, fun i hi => ?_⟩
                · by_cases e : i = k
                  · rw [e, HLK.out]; exact decide_eq_true he
                  · exact J1.out i (by omega)
                · by_cases e : i = k
                  · rw [e]; exact all_range.2 fun i' hi' => by rw [HP.out i' hi']; rfl
                  · exact J2.out i (by omega)
        have ek2 : N = k := by omega
        subst ek2
        have HF : Hid (cycW A L = true) := cyc_yes (by rw [HLN.out]; omega) (fun i hi => HI.out i (by rw [HLN.out] at hi; exact hi)) (fun i hi => J1.out i (by rw [HLN.out] at hi; exact hi)) (fun i hi => J2.out i (by rw [HLN.out] at hi; exact hi))
        go_wp2
        go_ret
        exact ⟨by rw [HF.out]; rfl, B0.out.trans (BZ.out.mono B0.out.size)⟩
theorem prodI_natW : ∀ {zs : List Int}, (∀ z, z ∈ zs → 1 ≤ z) → prodI zs = (prodN' (nats zs) : Int)
  | [], _ => rfl
  | z :: zs, h => by
    have ih := prodI_natW fun y hy => h y (List.mem_cons_of_mem _ hy)
    have h1 := h z (List.mem_cons_self ..)
    show z * prodI zs = ((z.toNat * prodN' (nats zs) : Nat) : Int)
    rw [ih, Int.natCast_mul, Int.toNat_of_nonneg (by omega)]
theorem rates_prod {n : NN} (h : SoundN n) {L : List (Int × Bool)} (hm : nmW n.arcs L = true) : (cmpI (prodI (gvW n.arcs L)) (prodI (kpW n.arcs L)) == 0) = alW n.arcs L := by
  obtain ⟨r1, r2⟩ := h.rates hm
  rw [cmpI_zero, prodI_natW (fun z hz => (r1 z hz).1), prodI_natW (fun z hz => (r2 z hz).1)]
  unfold alW
  by_cases e : prodN' (nats (gvW n.arcs L)) = prodN' (nats (kpW n.arcs L))
  · rw [decide_eq_true e, decide_eq_true (by rw [e])]
  · rw [decide_eq_false e, decide_eq_false (fun q => e (by exact_mod_cast q))]
set_option maxRecDepth 100000 in
set_option maxHeartbeats 16000000 in
theorem rconfirm_any (n : NN) (a : Option Addr) (c : Nat) (L : List (Int × Bool)) (la : Option Addr) (lc : Nat) (w : World) (ha : AtN w a n.arcs) (hln : n.arcs.length ≤ 4611686018427387904) (hl : AtT w la L) (hN : L.length ≤ 4611686018427387904) :
    Calls Try.prog 17 #[.agg #[.int .i64 n.nodes, .slice a n.arcs.length c], .slice la L.length lc] w fun e w' => e = .returned (.int .i64 (conW n L)) ∧ Below w.heap.size w w' := by
  have b0 := (Below.refl w.heap.size w).alloc (Nat.le_refl _) (.cells #[.int .i64 n.nodes, .slice a n.arcs.length c] 24)
  have X0 := hiddenN (blkA_new 24 w #[.int .i64 n.nodes, .slice a n.arcs.length c])
  have B0 := hiddenN b0
  have HA := hiddenN (ha.below b0)
  have HL := hiddenN (hl.below b0)
  have CH := hiddenN (rcheck10_any n a c _ (ha.below b0) hln)
  have IC : Hid (∀ U, Below (w.alloc (.cells #[.int .i64 n.nodes, .slice a n.arcs.length c] 24)).heap.size (w.alloc (.cells #[.int .i64 n.nodes, .slice a n.arcs.length c] 24)) U → Calls Try.prog 27 #[.agg #[.int .i64 n.nodes, .slice a n.arcs.length c], .slice la L.length lc] U fun e w' => e = .returned (.bool (cycW n.arcs L)) ∧ Below U.heap.size U w') := fun U hU => rcycle_any n.arcs n.nodes a c L la lc U (HA.out.below hU) (HL.out.below hU) hN
  have y0 := X0.out.cell (k := 0) rfl
  have y1 := X0.out.cell (k := 1) rfl
  simp only [List.getElem_toArray, List.getElem_cons_zero, List.getElem_cons_succ] at y0 y1
  clear b0 ha hl
  obtain ⟨E, hE⟩ : ∃ E, conW n L = E := ⟨_, rfl⟩
  rw [hE]
  unfold conW at hE
  by_cases hc : checkN n = 0
  · rw [if_pos hc] at hE
    rw [hc] at CH
    cases h1 : cycW n.arcs L with
    | false =>
      rw [h1] at IC hE
      simp only [Bool.false_eq_true, if_false] at hE
      subst hE
      generalize L.length = N at *
      go_enter Try.func17, Try.ntmps17
      go_upto_region 1 with fail
      generalize w.alloc (.cells #[.int .i64 n.nodes, .slice a n.arcs.length c] 24) = W0 at *
      go_wp2_with (first
        | (go_at_call 21; (with_reducible refine CH.out.mono ?_); rintro e V1 ⟨rfl, q1⟩; have L1 := hiddenN q1; clear q1; have y0 := (X0.out.below L1.out).cell (k := 0) rfl; have y1 := (X0.out.below L1.out).cell (k := 1) rfl; simp only [List.getElem_toArray, List.getElem_cons_zero, List.getElem_cons_succ] at y0 y1)
        | (go_at_call 27; (with_reducible refine (IC.out V1 L1.out).mono ?_); rintro e V2 ⟨rfl, q2⟩; have L2 := hiddenN (L1.out.trans (q2.mono L1.out.size)); clear q2; have y0 := (X0.out.below L2.out).cell (k := 0) rfl; have y1 := (X0.out.below L2.out).cell (k := 1) rfl; simp only [List.getElem_toArray, List.getElem_cons_zero, List.getElem_cons_succ] at y0 y1))
      go_ret
      exact ⟨rfl, B0.out.trans (L2.out.mono B0.out.size)⟩
    | true =>
      have hS := check_sound hc
      have hlen : L.length ≤ 96 := by have := (cyc_iff.1 h1).few; have := hS.most; omega
      obtain ⟨-, -, r2, r3⟩ := rates_eq hS (cyc_named h1) (by omega)
      have hp0 : proW n L = 0 := by
        unfold proW
        rw [if_pos hc, if_neg (by omega), if_pos (cyc_named h1)]
      have PR : Hid (∀ U, Below (w.alloc (.cells #[.int .i64 n.nodes, .slice a n.arcs.length c] 24)).heap.size (w.alloc (.cells #[.int .i64 n.nodes, .slice a n.arcs.length c] 24)) U → Calls Try.prog 8 #[.agg #[.int .i64 n.nodes, .slice a n.arcs.length c], .slice la L.length lc] U (ProE U n L)) := fun U hU => rproducts_any n a c L la lc U (HA.out.below hU) hln (HL.out.below hU) hN
      unfold ProE at PR
      rw [hp0, if_pos rfl, if_pos rfl] at PR
      have RP := hiddenN (rates_prod hS (cyc_named h1))
      have P1 : Hid (∀ U d e, At U d (gvW n.arcs L) → Calls Try.prog 29 #[.slice d (gvW n.arcs L).length e] U _) := fun U d e g => product_wh d (gvW n.arcs L) _ e U rfl (by rw [gv_len]; omega) r2 g
      have P2 : Hid (∀ U d e, At U d (kpW n.arcs L) → Calls Try.prog 29 #[.slice d (kpW n.arcs L).length e] U _) := fun U d e g => product_wh d (kpW n.arcs L) _ e U rfl (by rw [kp_len]; omega) r3 g
      have CM : Hid (∀ U m4 m5 a4 a5 l4 l5 p4 p5 s4 s5, Wh U m4 a4 l4 p4 s4 (prodI (gvW n.arcs L)) → Wh U m5 a5 l5 p5 s5 (prodI (kpW n.arcs L)) → Calls Try.prog 28 #[.agg #[.bool m4, .slice a4 l4 p4], .agg #[.bool m5, .slice a5 l5 p5]] U (ComparedWh U (prodI (gvW n.arcs L)) (prodI (kpW n.arcs L)))) := fun U m4 m5 a4 a5 l4 l5 p4 p5 s4 s5 h4 h5 => cmp_any m4 m5 a4 a5 l4 l5 p4 p5 s4 s5 _ _ U h4 h5
      unfold MadeWh at P1 P2
      unfold ComparedWh at CM
      rw [h1] at IC hE
      simp only [if_true] at hE
      clear hS r2 r3 hc h1 hp0
      generalize prodI (gvW n.arcs L) = p at *
      generalize prodI (kpW n.arcs L) = q at *
      generalize gvW n.arcs L = xs at *
      generalize kpW n.arcs L = ys at *
      generalize cmpI p q = cm at *
      cases h2 : alW n.arcs L with
      | false =>
        rw [h2] at RP hE
        simp only [Bool.false_eq_true, if_false] at hE
        subst hE
        have rp := RP.out
        clear h2
        generalize L.length = N at *
        go_enter Try.func17, Try.ntmps17
        go_upto_region 1 with fail
        generalize w.alloc (.cells #[.int .i64 n.nodes, .slice a n.arcs.length c] 24) = W0 at *
        go_wp2_with (first
          | (go_at_call 21; (with_reducible refine CH.out.mono ?_); rintro e V1 ⟨rfl, q1⟩; have L1 := hiddenN q1; clear q1; have y0 := (X0.out.below L1.out).cell (k := 0) rfl; have y1 := (X0.out.below L1.out).cell (k := 1) rfl; simp only [List.getElem_toArray, List.getElem_cons_zero, List.getElem_cons_succ] at y0 y1)
          | (go_at_call 27; (with_reducible refine (IC.out V1 L1.out).mono ?_); rintro e V2 ⟨rfl, q2⟩; have L2 := hiddenN (L1.out.trans (q2.mono L1.out.size)); clear q2; have y0 := (X0.out.below L2.out).cell (k := 0) rfl; have y1 := (X0.out.below L2.out).cell (k := 1) rfl; simp only [List.getElem_toArray, List.getElem_cons_zero, List.getElem_cons_succ] at y0 y1)
          | (go_at_call 8; (with_reducible refine (PR.out V2 L2.out).mono ?_); rintro e V3 ⟨d1, c1, d2, c2, rfl, q3, q4⟩; have R1 := hiddenN q3.r1.at; have R2 := hiddenN q3.r2.at; have L3 := hiddenN (L2.out.trans (q4.mono L2.out.size)); clear q3 q4)
          | (go_at_call 29; (with_reducible refine (P2.out V4 d2 c2 R24.out).mono ?_); rintro e V5 ⟨m5, a5, l5, p5, s5, rfl, q5, b5, -⟩; have W5 := hiddenN q5; have W45 := hiddenN (W4.out.below b5); have L5 := hiddenN (L4.out.trans (b5.mono L4.out.size)); clear q5 b5)
          | (go_at_call 29; (with_reducible refine (P1.out V3 d1 c1 R1.out).mono ?_); rintro e V4 ⟨m4, a4, l4, p4, s4, rfl, q5, b5, -⟩; have W4 := hiddenN q5; have R24 := hiddenN (R2.out.below b5); have L4 := hiddenN (L3.out.trans (b5.mono L3.out.size)); clear q5 b5)
          | (go_at_call 28; (with_reducible refine (CM.out V5 m4 m5 a4 a5 l4 l5 p4 p5 s4 s5 W45.out W5.out).mono ?_); rintro e V6 ⟨rfl, q6⟩; have L6 := hiddenN (L5.out.trans (q6.mono L5.out.size)); clear q6))
        go_ret
        exact ⟨rfl, B0.out.trans (L6.out.mono B0.out.size)⟩
      | true =>
        rw [h2] at RP hE
        simp only [if_true] at hE
        subst hE
        have rp := RP.out
        clear h2
        generalize L.length = N at *
        go_enter Try.func17, Try.ntmps17
        go_upto_region 1 with fail
        generalize w.alloc (.cells #[.int .i64 n.nodes, .slice a n.arcs.length c] 24) = W0 at *
        go_wp2_with (first
          | (go_at_call 21; (with_reducible refine CH.out.mono ?_); rintro e V1 ⟨rfl, q1⟩; have L1 := hiddenN q1; clear q1; have y0 := (X0.out.below L1.out).cell (k := 0) rfl; have y1 := (X0.out.below L1.out).cell (k := 1) rfl; simp only [List.getElem_toArray, List.getElem_cons_zero, List.getElem_cons_succ] at y0 y1)
          | (go_at_call 27; (with_reducible refine (IC.out V1 L1.out).mono ?_); rintro e V2 ⟨rfl, q2⟩; have L2 := hiddenN (L1.out.trans (q2.mono L1.out.size)); clear q2; have y0 := (X0.out.below L2.out).cell (k := 0) rfl; have y1 := (X0.out.below L2.out).cell (k := 1) rfl; simp only [List.getElem_toArray, List.getElem_cons_zero, List.getElem_cons_succ] at y0 y1)
          | (go_at_call 8; (with_reducible refine (PR.out V2 L2.out).mono ?_); rintro e V3 ⟨d1, c1, d2, c2, rfl, q3, q4⟩; have R1 := hiddenN q3.r1.at; have R2 := hiddenN q3.r2.at; have L3 := hiddenN (L2.out.trans (q4.mono L2.out.size)); clear q3 q4)
          | (go_at_call 29; (with_reducible refine (P2.out V4 d2 c2 R24.out).mono ?_); rintro e V5 ⟨m5, a5, l5, p5, s5, rfl, q5, b5, -⟩; have W5 := hiddenN q5; have W45 := hiddenN (W4.out.below b5); have L5 := hiddenN (L4.out.trans (b5.mono L4.out.size)); clear q5 b5)
          | (go_at_call 29; (with_reducible refine (P1.out V3 d1 c1 R1.out).mono ?_); rintro e V4 ⟨m4, a4, l4, p4, s4, rfl, q5, b5, -⟩; have W4 := hiddenN q5; have R24 := hiddenN (R2.out.below b5); have L4 := hiddenN (L3.out.trans (b5.mono L3.out.size)); clear q5 b5)
          | (go_at_call 28; (with_reducible refine (CM.out V5 m4 m5 a4 a5 l4 l5 p4 p5 s4 s5 W45.out W5.out).mono ?_); rintro e V6 ⟨rfl, q6⟩; have L6 := hiddenN (L5.out.trans (q6.mono L5.out.size)); clear q6))
        go_ret
        exact ⟨rfl, B0.out.trans (L6.out.mono B0.out.size)⟩
  · rw [if_neg hc] at hE
    have hne : (checkN n != 0) = true := by simpa using hc
    rw [hE] at CH hne
    clear hE hc
    generalize L.length = N at *
    go_enter Try.func17, Try.ntmps17
    go_upto_region 1 with fail
    generalize w.alloc (.cells #[.int .i64 n.nodes, .slice a n.arcs.length c] 24) = W0 at *
    go_wp2_with (go_at_call 21; (with_reducible refine CH.out.mono ?_); rintro e V1 ⟨rfl, q1⟩; have L1 := hiddenN q1; clear q1; have y0 := (X0.out.below L1.out).cell (k := 0) rfl; have y1 := (X0.out.below L1.out).cell (k := 1) rfl; simp only [List.getElem_toArray, List.getElem_cons_zero, List.getElem_cons_succ] at y0 y1)
    go_ret
    exact ⟨rfl, B0.out.trans (L1.out.mono B0.out.size)⟩
set_option maxRecDepth 100000 in
set_option maxHeartbeats 16000000 in
theorem witnessConfirms_walk (n : NN) (a : Option Addr) (c : Nat) (la : Option Addr) (len lc : Nat) (L : List (Int × Bool)) (w : World) (h : ArgN w a c n) (hL : ArgT w la len lc L) : Calls Try.prog 4 #[.agg #[.int .i64 n.nodes, .slice a n.arcs.length c], .slice la len lc] w fun e w' => e = .returned (.bool true) ∧ Below w.heap.size w w' := by
  have hroom : n.arcs.length ≤ 4611686018427387904 := by have := h.room; omega
  have hLr : L.length ≤ 4611686018427387904 := by have := hL.room; omega
  have AW : Hid (∀ U, Calls Try.prog 14 #[] U fun e w' => e = .returned (.bool true) ∧ Below U.heap.size U w') := fun U => awakeW U
  have b0 := (Below.refl w.heap.size w).alloc (Nat.le_refl _) (.cells #[.int .i64 n.nodes, .slice a n.arcs.length c] 24)
  have X0 := hiddenN (blkA_new 24 w #[.int .i64 n.nodes, .slice a n.arcs.length c])
  have B0 := hiddenN b0
  have HA := hiddenN (h.below b0)
  have hlen := hL.len
  subst hlen
  have HL := hiddenN (hL.below b0)
  have RC : Hid (∀ U, AtN U a n.arcs → AtT U la L → Calls Try.prog 17 #[.agg #[.int .i64 n.nodes, .slice a n.arcs.length c], .slice la L.length lc] U fun e w' => e = .returned (.int .i64 (conW n L)) ∧ Below U.heap.size U w') := fun U g1 g2 => rconfirm_any n a c L la lc U g1 hroom g2 hLr
  have PC : Hid (∀ U b d k e, AtN U b n.arcs → AtT U d L → L.length ≤ e → Calls Try.prog 16 #[.agg #[.int .i64 n.nodes, .slice b n.arcs.length k], .slice d L.length e] U fun e w' => e = .returned (.int .i64 (conW n L)) ∧ Below U.heap.size U w') := fun U b d k e g1 g2 g3 => confirm_any n b k L d e U g1 hroom g2 hLr g3
  have ST : Hid (∀ U, ArgT U la L.length lc L → Calls Try.prog 9 #[.slice la L.length lc] U (RowT U L)) := fun U g => steps_any L la _ lc U g
  have NM : Hid (∀ U, ArgN U a c n → Calls Try.prog 15 #[.agg #[.int .i64 n.nodes, .slice a n.arcs.length c]] U (NetE n U)) := fun U g => rnet_any n a c U g
  have SN : Hid (∀ U d cc, AtN U d n.arcs → AtN U a n.arcs → Calls Try.prog 18 #[.agg #[.int .i64 n.nodes, .slice d n.arcs.length cc], .agg #[.int .i64 n.nodes, .slice a n.arcs.length c]] U fun e w' => e = .returned (.bool true) ∧ Below U.heap.size U w') := fun U d cc g1 g2 => sameNet_any n d a cc c U g1 g2 hroom
  have SS : Hid (∀ U x y cx cy, AtT U x L → AtT U y L → Calls Try.prog 12 #[.slice x L.length cx, .slice y L.length cy] U fun e w' => e = .returned (.bool true) ∧ Below U.heap.size U w') := fun U x y cx cy h1 h2 => sameT_any L x y cx cy U h1 h2 hLr
  unfold RowT at ST
  unfold NetE at NM
  generalize conW n L = E at *
  have CA : Hid (∀ B U d e, CapT B U d e L → L.length ≤ e) := fun B U d e g => g.room.1
  obtain ⟨N, hLN⟩ : ∃ N, L.length = N := ⟨_, rfl⟩
  rw [hLN] at RC PC ST SS HL CA ⊢
  have y0 := X0.out.cell (k := 0) rfl
  have y1 := X0.out.cell (k := 1) rfl
  simp only [List.getElem_toArray, List.getElem_cons_zero, List.getElem_cons_succ] at y0 y1
  have hEE : (E == E) = true := by simp
  clear b0 h hL hLN hLr
  go_enter Try.func4, Try.ntmps4
  go_upto_region 1 with fail
  generalize w.alloc (.cells #[.int .i64 n.nodes, .slice a n.arcs.length c] 24) = W0 at *
  go_upto_region 2 with (go_at_call 9; (with_reducible refine (ST.out _ HL.out).mono ?_); rintro e W1 ⟨sd, sc, rfl, q2, b2⟩; have O1 := hiddenN q2.at; have hsc := CA.out _ _ _ _ q2; have L1 := hiddenN (B0.out.trans (b2.mono B0.out.size)); have X1 := hiddenN (X0.out.below b2); have A1 := hiddenN (HA.out.below b2); have S1 := hiddenN (HL.out.below b2); clear q2 b2 y0 y1)
  clear ST X0 HA HL B0
  have y0 := X1.out.cell (k := 0) rfl
  have y1 := X1.out.cell (k := 1) rfl
  simp only [List.getElem_toArray, List.getElem_cons_zero, List.getElem_cons_succ] at y0 y1
  go_upto_region 3 with (go_at_call 15; (with_reducible refine (NM.out _ A1.out).mono ?_); rintro e W2 ⟨d, cc, rfl, q1, -, -, -, b3⟩; have N2 := hiddenN q1; have L2 := hiddenN (L1.out.trans (b3.mono L1.out.size)); have X2 := hiddenN (X1.out.below b3); have A2 := hiddenN (A1.out.below b3); have S2 := hiddenN (S1.out.below b3); have O2 := hiddenN (O1.out.below b3); clear q1 b3 y0 y1)
  clear NM X1 A1 S1 O1 L1
  have b4 := (Below.refl W2.heap.size W2).alloc (Nat.le_refl _) (.cells #[.int .i64 n.nodes, .slice d n.arcs.length cc] 24)
  have M3 := hiddenN (blkA_new 24 W2 #[.int .i64 n.nodes, .slice d n.arcs.length cc])
  have L3 := hiddenN (L2.out.trans (b4.mono L2.out.size))
  have X3 := hiddenN (X2.out.below b4)
  have A3 := hiddenN (A2.out.below b4)
  have S3 := hiddenN (S2.out.below b4)
  have O3 := hiddenN (O2.out.below b4)
  have N3 := hiddenN (N2.out.below b4)
  obtain ⟨mb, hmb⟩ : ∃ q, W2.heap.size = q := ⟨_, rfl⟩
  rw [hmb] at M3 ⊢
  generalize W2.alloc (.cells #[.int .i64 n.nodes, .slice d n.arcs.length cc] 24) = W3 at *
  clear b4 hmb X2 A2 S2 O2 N2 L2
  have y0 := M3.out.cell (k := 0) rfl
  have y1 := M3.out.cell (k := 1) rfl
  simp only [List.getElem_toArray, List.getElem_cons_zero, List.getElem_cons_succ] at y0 y1
  go_upto_region 4 with (go_at_call 16; (with_reducible refine (PC.out _ d sd cc sc N3.out O3.out hsc).mono ?_); rintro e W4 ⟨rfl, b4⟩; have L4 := hiddenN (L3.out.trans (b4.mono L3.out.size)); have X4 := hiddenN (X3.out.below b4); have A4 := hiddenN (A3.out.below b4); have S4 := hiddenN (S3.out.below b4); have O4 := hiddenN (O3.out.below b4); have N4 := hiddenN (N3.out.below b4); have M4 := hiddenN (M3.out.below b4); clear b4 y0 y1)
  clear PC X3 A3 S3 O3 N3 M3 L3
  have y0 := X4.out.cell (k := 0) rfl
  have y1 := X4.out.cell (k := 1) rfl
  simp only [List.getElem_toArray, List.getElem_cons_zero, List.getElem_cons_succ] at y0 y1
  go_wp2_with (first
    | (go_at_call 14; (with_reducible refine (AW.out _).mono ?_); rintro e V9 ⟨rfl, v9⟩; have M9 := hiddenN (L7.out.trans (v9.mono L7.out.size)); clear v9)
    | (go_at_call 18; (with_reducible refine (SN.out _ d cc N6.out A6.out.lies).mono ?_); rintro e W7 ⟨rfl, b7⟩; have L7 := hiddenN (L6.out.trans (b7.mono L6.out.size)); clear b7)
    | (go_at_call 12; (with_reducible refine (SS.out _ sd la sc lc O5.out S5.out.lies).mono ?_); rintro e W6 ⟨rfl, b6⟩; have L6 := hiddenN (L5.out.trans (b6.mono L5.out.size)); have N6 := hiddenN (N5.out.below b6); have A6 := hiddenN (A5.out.below b6); have M6 := hiddenN (M5.out.below b6); have X6 := hiddenN (X5.out.below b6); clear b6; have z0 := M6.out.cell (k := 0) rfl; have z1 := M6.out.cell (k := 1) rfl; have x0 := X6.out.cell (k := 0) rfl; have x1 := X6.out.cell (k := 1) rfl; simp only [List.getElem_toArray, List.getElem_cons_zero, List.getElem_cons_succ] at z0 z1 x0 x1)
    | (go_at_call 17; (with_reducible refine (RC.out _ A4.out.lies S4.out.lies).mono ?_); rintro e W5 ⟨rfl, b5⟩; have L5 := hiddenN (L4.out.trans (b5.mono L4.out.size)); have N5 := hiddenN (N4.out.below b5); have A5 := hiddenN (A4.out.below b5); have M5 := hiddenN (M4.out.below b5); have X5 := hiddenN (X4.out.below b5); have O5 := hiddenN (O4.out.below b5); have S5 := hiddenN (S4.out.below b5); clear b5 y0 y1))
  go_ret
  exact ⟨rfl, M9.out⟩
end Go.Proofs.Ytdifaobfomfieaa
