/- Texts of one chain, laid one behind the other. -/
import Derived.Test.YtigodedloogbcaaPartSimulTimes31
import Derived.Test.YtigodedloogbcaaPartSimulTimes33
import Derived.Test.YtigodedloogbcaaPartSimulTimes29
namespace Go.Proofs.Ytigodedloogbcaa
open Go.RowKit
def scU (k : Int) (R : List Int) : List Int := R.map fun z => k * z
theorem scU_len (k : Int) (R : List Int) : (scU k R).length = R.length := List.length_map ..
theorem scU_nth (k : Int) : ∀ (R : List Int) (i : Nat), nth (scU k R) i = k * nth R i
  | [], i => by show (0 : Int) = k * 0; omega
  | z :: R, 0 => rfl
  | z :: R, i + 1 => scU_nth k R i
theorem scU_sum (k : Int) : ∀ R : List Int, sumU (scU k R) = k * sumU R
  | [] => by show (0 : Int) = k * 0; omega
  | z :: R => by show k * z + sumU (scU k R) = k * (z + sumU R); rw [scU_sum k R, Int.mul_add]
theorem fires_mono {n : NN} (hS : SoundN n) : ∀ (zs T F : List Int) (m : Int), EqN n m T F → m + (zs.length : Int) ≤ 1000000000 → LeU n F (firesN n zs T F).2.2
  | [], _, _, _, _, _ => fun _ _ => Int.le_refl _
  | v :: zs, T, F, m, h, hm => by
    unfold firesN
    by_cases hv : mayN n T v = true
    · rw [if_pos hv]
      have hn := node_in (may_node hv)
      simp only [List.length_cons] at hm
      push_cast at hm
      have ih := fires_mono hS zs (fireN n T v) (bumpF F v) (m + 1) (fire_eqL hS h (by omega) hv) (by omega)
      intro k hk
      have h1 := ih k hk
      rw [bump_eq h (by omega) hn.1 hk] at h1
      show nth F k ≤ nth (firesN n zs (fireN n T v) (bumpF F v)).2.2 k
      split at h1 <;> omega
    · rw [if_neg hv]; exact fun _ _ => Int.le_refl _
/-- What fires wholly within the counts stays below where a run ends. -/
theorem fires_leU {n : NN} {M T2 F2 : List Int} {m2 : Int} (hS : SoundN n) (h2 : EqN n m2 T2 F2) (hE : EndU n M T2 F2) : ∀ (zs T F : List Int) (m : Int), EqN n m T F → m + (zs.length : Int) ≤ 1000000000 → LeU n F F2 → (firesN n zs T F).1 = zs.length → LeU n (firesN n zs T F).2.2 M → LeU n (firesN n zs T F).2.2 F2
  | [], _, _, _, _, _, hl, _, _ => hl
  | v :: zs, T, F, m, h, hm, hl, hw, hM => by
    unfold firesN at hw hM ⊢
    by_cases hv : mayN n T v = true
    · rw [if_pos hv] at hw hM ⊢
      have hn := node_in (may_node hv)
      simp only [List.length_cons] at hm hw
      push_cast at hm
      have hq := fire_eqL hS h (by omega) hv
      have hmo := fires_mono hS zs (fireN n T v) (bumpF F v) (m + 1) hq (by omega) v.toNat (by omega)
      rw [bump_eq h (by omega) hn.1 (show v.toNat < n.nodes.toNat by omega), if_pos (by omega)] at hmo
      have hMv := hM v.toNat (by omega)
      simp only at hMv
      exact fires_leU hS h2 hE zs _ _ (m + 1) hq (by omega) (step_le hS (MoreU.refl n) h h2 hE (by omega) hl (by omega) hv) (by omega) hM
    · rw [if_neg hv] at hw
      simp at hw
def cntU : List Int → Nat → Int
  | [], _ => 0
  | v :: Z, k => (if (k : Int) = v then 1 else 0) + cntU Z k
theorem bumps_nth : ∀ (Z F : List Int) (m : Int), (∀ k, k < F.length → 0 ≤ nth F k ∧ nth F k ≤ m) → 0 ≤ m → m + (Z.length : Int) ≤ 1000000000 → (∀ z ∈ Z, 0 ≤ z) → ∀ k, k < F.length → nth (bumpsN F Z) k = nth F k + cntU Z k
  | [], F, _, _, _, _, _, k, _ => by show nth F k = nth F k + 0; omega
  | v :: Z, F, m, hF, hm0, hm, hz, k, hk => by
    simp only [List.length_cons] at hm
    push_cast at hm
    have hv := hz v (List.mem_cons_self ..)
    have hb : ∀ j, j < F.length → nth (bumpF F v) j = nth F j + if (j : Int) = v then 1 else 0 := fun j hj => bump_nthL hv (m := m) (by omega) hF hj
    show nth (bumpsN (bumpF F v) Z) k = nth F k + ((if (k : Int) = v then 1 else 0) + cntU Z k)
    rw [bumps_nth Z (bumpF F v) (m + 1) (fun j hj => ?_) (by omega) (by omega) (fun z h => hz z (List.mem_cons_of_mem _ h)) k (by rw [bump_len]; exact hk), hb k hk]
    · omega
    · rw [bump_len] at hj
      rw [hb j hj]
      have := hF j hj
      split <;> omega
theorem home_eq {n : NN} {R : List Int} (hg : GoodU n R) {j : Int} (h0 : 0 ≤ j) (h8 : j ≤ 8) : EqN n 32768 (startT n) (scU j R) := by
  have hS := check_sound hg.check
  have h1 := start_eqU hS
  refine ⟨h1.few.more (by omega), by rw [scU_len]; exact hg.len, fun v hv => ?_, fun i hi => ?_⟩
  · rw [scU_nth]
    have := hg.win v (by rw [hg.len]; exact hv)
    refine ⟨Int.mul_nonneg h0 (by omega), ?_⟩
    have h3 : j * nth R v ≤ 8 * nth R v := Int.mul_le_mul_of_nonneg_right h8 (by omega)
    omega
  · rw [start_nth hi, scU_nth, scU_nth]
    have hb := hg.bal i hi
    have e1 : (nthNa n.arcs i).g * (j * nth R (nthNa n.arcs i).f.toNat) = j * ((nthNa n.arcs i).g * nth R (nthNa n.arcs i).f.toNat) := by rw [Int.mul_left_comm]
    have e2 : (nthNa n.arcs i).k * (j * nth R (nthNa n.arcs i).t.toNat) = j * ((nthNa n.arcs i).k * nth R (nthNa n.arcs i).t.toNat) := by rw [Int.mul_left_comm]
    rw [e1, e2, hb]
    omega
theorem fin_len {n : NN} {R P : List Int} (h : FinU n R P) : (finU n R P).1.length ≤ 2048 := by
  have e1 := h.sum
  have e2 := sum_le (F := (finU n R P).2.2) (R := R) (by rw [h.eq.lF, h.good.len]) (fun k hk => h.top k (by rw [← h.eq.lF]; exact hk))
  have := h.few
  omega
/-- k times the counts: there is a list just if there is one with them. -/
theorem times_iff {n : NN} {R : List Int} {k : Int} (h1 : 1 ≤ k) (h8 : k ≤ 8) (hR : errU n R [] = 0) (hM : errU n (scU k R) [] = 0) : bloU n R [] = [] ↔ bloU n (scU k R) [] = [] := by
  have fR := fin_of hR
  have fM := fin_of hM
  have hS := fR.sound
  constructor
  · intro hb
    have hFR := (blo_nil fR).1 hb
    rw [blo_nil fM]
    have hcnt : ∀ v, v < n.nodes.toNat → cntU (finU n R []).1 v = nth R v := fun v hv => by
      have e := bumps_nth (finU n R []).1 (List.replicate n.nodes.toNat 0) 0 (fun k _ => by rw [nth_rep0]; omega) (by omega) (by have := fin_len fR; omega) (fun z hz => (node_in (fR.node z hz)).1) v (by rw [List.length_replicate]; exact hv)
      rw [fin_bumps fR, hFR, nth_rep0] at e
      omega
    have key : ∀ j : Nat, (j : Int) ≤ k → LeU n (scU (j : Int) R) (finU n (scU k R) []).2.2 := by
      intro j
      induction j with
      | zero =>
        intro _ v hv
        rw [scU_nth]
        have := (fM.eq.fs v hv).1
        omega
      | succ j ih =>
        intro hj
        push_cast at hj
        have ihj := ih (by omega)
        have hq := home_eq fR.good (j := (j : Int)) (by omega) (by omega)
        have hw := (home_fires fR hb (scU (j : Int) R)).1
        have hbm := (fires_bumps n (finU n R []).1 (startT n) (scU (j : Int) R)).1
        rw [hw, List.take_length] at hbm
        have hfin : ∀ v, v < n.nodes.toNat → nth (firesN n (finU n R []).1 (startT n) (scU (j : Int) R)).2.2 v = ((j : Int) + 1) * nth R v := fun v hv => by
          rw [hbm, bumps_nth (finU n R []).1 (scU (j : Int) R) 32768 (fun i hi => hq.fs i (by rw [← hq.lF]; exact hi)) (by omega) (by have := fin_len fR; omega) (fun z hz => (node_in (fR.node z hz)).1) v (by rw [hq.lF]; exact hv), hcnt v hv, scU_nth, Int.add_mul]
          omega
        have hle := fires_leU hS fM.eq fM.fin (finU n R []).1 (startT n) (scU (j : Int) R) 32768 hq (by have := fin_len fR; omega) ihj hw (fun v hv => by
          rw [hfin v hv, scU_nth]
          have := fR.good.win v (by rw [fR.good.len]; exact hv)
          exact Int.mul_le_mul_of_nonneg_right (by omega) (by omega))
        intro v hv
        have := hle v hv
        rw [hfin v hv] at this
        rw [scU_nth]
        push_cast
        exact this
    have hk := key k.toNat (by omega)
    have e : ((k.toNat : Nat) : Int) = k := by omega
    rw [e] at hk
    exact list_eq (by rw [fM.eq.lF, fM.good.len]) fun i hi => by
      rw [fM.eq.lF] at hi
      have := hk i hi; have := fM.top i hi
      omega
  · intro hb
    have hFM := (blo_nil fM).1 hb
    apply Classical.byContradiction
    intro hne
    have hc := blk_con fR.good.check fR.good.bal fR.eq fR.fin (fun k hk => (fR.good.win k (by rw [fR.good.len]; exact hk)).2) hne
    have hh := run_hold (R := scU k R) (O := ranU n.nodes.toNat []) hc hS 2048 (startT n) (List.replicate n.nodes.toNat 0) 0 (start_eqU hS) (by decide) (hold_start hc)
    obtain ⟨b, hbm⟩ := List.exists_mem_of_ne_nil _ hne
    have h3 := hh b hbm
    have e : (runU n (scU k R) (ranU n.nodes.toNat []) 2048 (startT n) (List.replicate n.nodes.toNat 0)).2.2 = scU k R := hFM
    rw [e, scU_nth] at h3
    obtain ⟨v, hv, hl, rfl⟩ := blkU_mem hbm
    simp only [Int.toNat_natCast] at h3
    have := fR.good.win v (by rw [fR.good.len]; exact hv)
    have hkk : nth R v ≤ k * nth R v := by
      have := Int.mul_le_mul_of_nonneg_right h1 (show (0 : Int) ≤ nth R v by omega)
      omega
    omega
theorem sc_nat {k : Int} (h1 : 1 ≤ k) {R : List Int} (hR : ∀ v, v < R.length → 1 ≤ nth R v) (v : Nat) (hv : v < R.length) : natB (scU k R) v = k.toNat * natB R v := by
  unfold natB
  rw [scU_nth]
  exact Int.toNat_mul (by omega) (by have := hR v hv; omega)
/-- The counts' errors, once and k times. -/
theorem times_err {n : NN} {R : List Int} {k : Int} (h1 : 1 ≤ k) (hB : hoB n R = true) : (errU n R [] = 0 ∨ (errU n R [] = 5 ∧ errU n (scU k R) [] ≠ 0)) ∧ (errU n (scU k R) [] = 0 ∨ errU n (scU k R) [] = 5 ∨ errU n (scU k R) [] = 130) := by
  have hg := good_of hB
  have he := ho_two hB
  have hS := check_sound hg.check
  have hnn := nodes_nat hS
  have hfu : fuB n.arcs (natB (scU k R)) = none := fuB_none fun j hj => by
    have hB2 := hB
    unfold hoB at hB2
    rw [Bool.and_eq_true, Bool.and_eq_true, Bool.and_eq_true] at hB2
    have hx : fuB n.arcs (natB R) = none := by
      cases hx : fuB n.arcs (natB R) with
      | none => rfl
      | some j => rw [hx] at hB2; cases hB2.2.2.2
    have hev := fuB_all hx j hj
    have hsa := hS.arcs j hj
    have q1 := hsa.f; have q2 := hsa.t
    unfold EvB at hev ⊢
    rw [sc_nat h1 (fun v hv => (hg.win v hv).1) _ (by rw [hg.len]; unfold fN; omega), sc_nat h1 (fun v hv => (hg.win v hv).1) _ (by rw [hg.len]; unfold tN; omega), Nat.mul_left_comm, hev, Nat.mul_left_comm]
  have hlen : ((scU k R).length : Int) = n.nodes := by rw [scU_len, hg.len]; omega
  have hE : hoE n (scU k R) = 0 := by unfold hoE; rw [if_pos hg.check, if_pos hlen]
  have hBm : hoB n (scU k R) = winB (scU k R) := by unfold hoB; rw [decide_eq_true hg.check, decide_eq_true hlen, hfu]; simp
  have eM : errU n (scU k R) [] = if winB (scU k R) = true then (if 2048 < k * sumU R then 5 else 0) else 130 := by
    unfold errU
    rw [if_pos hE, hBm, scU_sum]
    rfl
  have eR : errU n R [] = if 2048 < sumU R then 5 else 0 := by
    unfold errU
    rw [if_pos he, if_pos hB]
    rfl
  have hp := sum_pos hg
  refine ⟨?_, ?_⟩
  · rw [eR]
    by_cases hs : 2048 < sumU R
    · rw [if_pos hs]
      refine .inr ⟨rfl, ?_⟩
      rw [eM]
      split
      · rw [if_pos (by have := Int.mul_le_mul_of_nonneg_right h1 (show (0 : Int) ≤ sumU R by omega); omega)]
        decide
      · decide
    · rw [if_neg hs]; exact .inl rfl
  · rw [eM]
    split
    · split
      · exact .inr (.inl rfl)
      · exact .inl rfl
    · exact .inr (.inr rfl)
theorem times_len {n : NN} {R : List Int} {k : Int} (h1 : 1 ≤ k) (h8 : k ≤ 8) (hR : errU n R [] = 0) (hM : errU n (scU k R) [] = 0) : ((lisU n (scU k R) []).length : Int) = k * ((lisU n R []).length : Int) := by
  by_cases hb : bloU n R [] = []
  · rw [lis_len hM ((times_iff h1 h8 hR hM).1 hb), lis_len hR hb, scU_sum]
  · have hb2 : ¬ bloU n (scU k R) [] = [] := fun e => hb ((times_iff h1 h8 hR hM).2 e)
    have e1 : lisU n R [] = [] := by unfold lisU; rw [if_pos hR, if_neg hb]
    have e2 : lisU n (scU k R) [] = [] := by unfold lisU; rw [if_pos hM, if_neg hb2]
    rw [e1, e2]
    show (0 : Int) = k * 0
    omega
end Go.Proofs.Ytigodedloogbcaa
namespace Go.Proofs.Ytigodedloogbcaa
open Go.ChangeShapes Go.WideShapes Go.ChangeAt Go.RowKit
theorem sc_take {k : Int} {R : List Int} {i : Nat} (h : i < R.length) : scU k (R.take (i + 1)) = scU k (R.take i) ++ [k * nth R i] := by
  rw [take_snoc h]
  unfold scU
  rw [List.map_append]
  rfl
set_option maxRecDepth 100000 in
set_option maxHeartbeats 16000000 in
theorem simulTimes_walk (n : NN) (a : Option Addr) (c : Nat) (k : Int) (w : World) (h : ArgN w a c n) (hk : -9223372036854775808 ≤ k ∧ k ≤ 9223372036854775807) : Calls Try.prog 4 #[.agg #[.int .i64 n.nodes, .slice a n.arcs.length c], .int .i64 k] w fun e w' => e = .returned (.bool true) ∧ Below w.heap.size w w' := by
  have hroom : n.arcs.length ≤ 4611686018427387904 := by have := h.room; omega
  have SR : Hid (∀ (R : List Int) (r : Option Addr) (rc : Nat) (U : World), Below w.heap.size w U → At U r R → R.length ≤ 32 → (r = none → R.length = 0 ∧ rc = 0) → Calls Try.prog 7 #[.agg #[.int .i64 n.nodes, .slice a n.arcs.length c], .slice r R.length rc, .slice none 0 0] U (RunE n R [] U)) := fun R r rc U hU hr hl hrn => simRun_any n a c R r rc [] none 0 U (h.lies.below hU) hroom h.none hr (by omega) hrn (.inl rfl) (by decide)
  unfold RunE at SR
  have AW := hiddenN awake15
  have b0 := (Below.refl w.heap.size w).alloc (Nat.le_refl _) (.cells #[.int .i64 n.nodes, .slice a n.arcs.length c] 24)
  have X0 := hiddenN (blkA_new 24 w #[.int .i64 n.nodes, .slice a n.arcs.length c])
  have B0 := hiddenN b0
  have y0 := X0.out.cell (k := 0) rfl
  have y1 := X0.out.cell (k := 1) rfl
  simp only [List.getElem_toArray, List.getElem_cons_zero, List.getElem_cons_succ] at y0 y1
  have HA := hiddenN (h.lies.below b0)
  clear b0 h
  by_cases hc : checkN n = 0
  · cases hb : bigA n with
    | true =>
      have SO := hiddenN (solve_big hc hb a c _ HA.out hroom)
      go_enter Try.func4, Try.ntmps4
      go_upto_region 1 with fail
      generalize (w.alloc (.cells #[.int .i64 n.nodes, .slice a n.arcs.length c] 24)) = W0 at *
      go_upto_region 2 with (go_at_call 12; (with_reducible refine SO.out.mono ?_); rintro e W1 ⟨d1, c1, d2, c2, rfl, b1⟩; have L1 := hiddenN (B0.out.trans (b1.mono B0.out.size)); have N1 := hiddenN (X0.out.below b1); clear b1)
      have b2 := (Below.refl W1.heap.size W1).alloc (Nat.le_refl _) (.cells #[.int .u8 3, .slice d1 0 c1, .slice d2 0 c2] 43)
      have X2 := hiddenN (blkA_new 43 W1 #[.int .u8 3, .slice d1 0 c1, .slice d2 0 c2])
      have L2 := hiddenN (L1.out.trans (b2.mono L1.out.size))
      have N2 := hiddenN (N1.out.below b2)
      obtain ⟨xb, hxb⟩ : ∃ q, W1.heap.size = q := ⟨_, rfl⟩
      rw [hxb] at X2 ⊢
      clear b2 y0 y1 L1 N1 SO X0 B0 hxb
      generalize W1.alloc (.cells #[.int .u8 3, .slice d1 0 c1, .slice d2 0 c2] 43) = W2 at *
      have x0 := X2.out.cell (k := 0) rfl
      have x1 := X2.out.cell (k := 1) rfl
      have y0 := N2.out.cell (k := 0) rfl
      have y1 := N2.out.cell (k := 1) rfl
      simp only [List.getElem_toArray, List.getElem_cons_zero, List.getElem_cons_succ] at x0 x1 y0 y1
      go_wp2_with (go_at_call 11; (with_reducible refine (AW.out _).mono ?_); rintro e W9 ⟨rfl, bw⟩; have L9 := hiddenN (L2.out.trans (bw.mono L2.out.size)); clear bw)
      go_ret
      exact ⟨by first | rfl | simp, L9.out⟩
    | false =>
      cases hf : fuB n.arcs (cnt n) with
      | some i =>
        have SO := hiddenN (solve_odd hc hb hf a c _ HA.out hroom)
        generalize (cycB n i).length = lc at *
        go_enter Try.func4, Try.ntmps4
        go_upto_region 1 with fail
        generalize (w.alloc (.cells #[.int .i64 n.nodes, .slice a n.arcs.length c] 24)) = W0 at *
        go_upto_region 2 with (go_at_call 12; (with_reducible refine SO.out.mono ?_); rintro e W1 ⟨d1, c1, d2, c2, rfl, -, b1⟩; have L1 := hiddenN (B0.out.trans (b1.mono B0.out.size)); have N1 := hiddenN (X0.out.below b1); clear b1)
        have b2 := (Below.refl W1.heap.size W1).alloc (Nat.le_refl _) (.cells #[.int .u8 2, .slice d1 0 c1, .slice d2 lc c2] 43)
        have X2 := hiddenN (blkA_new 43 W1 #[.int .u8 2, .slice d1 0 c1, .slice d2 lc c2])
        have L2 := hiddenN (L1.out.trans (b2.mono L1.out.size))
        have N2 := hiddenN (N1.out.below b2)
        obtain ⟨xb, hxb⟩ : ∃ q, W1.heap.size = q := ⟨_, rfl⟩
        rw [hxb] at X2 ⊢
        clear b2 y0 y1 L1 N1 SO X0 B0 hxb
        generalize W1.alloc (.cells #[.int .u8 2, .slice d1 0 c1, .slice d2 lc c2] 43) = W2 at *
        have x0 := X2.out.cell (k := 0) rfl
        have x1 := X2.out.cell (k := 1) rfl
        have y0 := N2.out.cell (k := 0) rfl
        have y1 := N2.out.cell (k := 1) rfl
        simp only [List.getElem_toArray, List.getElem_cons_zero, List.getElem_cons_succ] at x0 x1 y0 y1
        go_wp2_with (go_at_call 11; (with_reducible refine (AW.out _).mono ?_); rintro e W9 ⟨rfl, bw⟩; have L9 := hiddenN (L2.out.trans (bw.mono L2.out.size)); clear bw)
        go_ret
        exact ⟨by first | rfl | simp, L9.out⟩
      | none =>
        have SO := hiddenN (solve_even hc hb hf a c _ HA.out hroom)
        have hho := ho_least hc hb hf
        have hnn := nodes_nat (check_sound hc)
        obtain ⟨R, hR⟩ : ∃ R, rowF n.nodes.toNat (cnt n) = R := ⟨_, rfl⟩
        have hRl : R.length = n.nodes.toNat := by rw [← hR, rowF_len]
        rw [hR] at SO hho
        have HB := hiddenN hho.1
        obtain ⟨N, hN⟩ : ∃ N, n.nodes.toNat = N := ⟨_, rfl⟩
        rw [hN] at SO hRl hnn
        have HRl := hiddenN hRl
        have hN1 := hnn.2
        clear hho hnn hR hN hRl hc hb hf
        go_enter Try.func4, Try.ntmps4
        go_upto_region 1 with fail
        generalize (w.alloc (.cells #[.int .i64 n.nodes, .slice a n.arcs.length c] 24)) = W0 at *
        go_upto_region 2 with (go_at_call 12; (with_reducible refine SO.out.mono ?_); rintro e W1 ⟨d1, c1, d2, c2, rfl, q1, b1⟩; have L1 := hiddenN (B0.out.trans (b1.mono B0.out.size)); have N1 := hiddenN (X0.out.below b1); have R1 := hiddenN q1; clear q1; clear b1)
        have b2 := (Below.refl W1.heap.size W1).alloc (Nat.le_refl _) (.cells #[.int .u8 1, .slice d1 N c1, .slice d2 0 c2] 43)
        have X2 := hiddenN (blkA_new 43 W1 #[.int .u8 1, .slice d1 N c1, .slice d2 0 c2])
        have L2 := hiddenN (L1.out.trans (b2.mono L1.out.size))
        have N2 := hiddenN (N1.out.below b2)
        have R2 := hiddenN (R1.out.later b2)
        obtain ⟨xb, hxb⟩ : ∃ q, W1.heap.size = q := ⟨_, rfl⟩
        rw [hxb] at X2 ⊢
        clear b2 y0 y1 L1 N1 SO X0 B0 hxb
        generalize W1.alloc (.cells #[.int .u8 1, .slice d1 N c1, .slice d2 0 c2] 43) = W2 at *
        have x0 := X2.out.cell (k := 0) rfl
        have x1 := X2.out.cell (k := 1) rfl
        have y0 := N2.out.cell (k := 0) rfl
        have y1 := N2.out.cell (k := 1) rfl
        simp only [List.getElem_toArray, List.getElem_cons_zero, List.getElem_cons_succ] at x0 x1 y0 y1
        by_cases k1 : k < 1
        · clear SR
          go_wp2_with (go_at_call 11; (with_reducible refine (AW.out _).mono ?_); rintro e W9 ⟨rfl, bw⟩; have L9 := hiddenN (L2.out.trans (bw.mono L2.out.size)); clear bw)
          go_ret
          exact ⟨by first | rfl | simp, L9.out⟩
        · by_cases k8 : 8 < k
          · have k8' : k > 8 := k8
            clear SR
            go_wp2_with (go_at_call 11; (with_reducible refine (AW.out _).mono ?_); rintro e W9 ⟨rfl, bw⟩; have L9 := hiddenN (L2.out.trans (bw.mono L2.out.size)); clear bw)
            go_ret
            exact ⟨by first | rfl | simp, L9.out⟩
          · have k8' : ¬ k > 8 := k8
            have hk1 : 1 ≤ k := by omega
            have hk8 : k ≤ 8 := by omega
            have hg := hiddenN (good_of HB.out)
            obtain ⟨g, hd1, hgl, hgu⟩ := R2.out.there (by rw [HRl.out]; omega)
            subst hd1
            obtain ⟨Q, hQ⟩ : ∃ q, W2.heap.size = q := ⟨_, rfl⟩
            have HQ := hiddenN hQ
            have hgQ : g < Q := by omega
            have hxQ : xb < Q := by rw [← hQ]; exact X2.out.lt
            have hnQ : w.heap.size < Q := by rw [← hQ]; exact N2.out.lt
            have hQ2 : Q ≤ W2.heap.size := by omega
            clear hQ
            go_upto_region 6 with fail
            go_loopg [7, 8] N (fun gk u7 u8 wr => ∃ (i cM : Nat) (d : Option Addr), i ≤ N ∧ gk = N - i ∧ u8 = .int .i64 (i : Int) ∧ u7 = .slice d i cM ∧ CapR Q wr d cM (scU k (R.take i)) ∧ Below Q W2 wr)
            case atStart => exact ⟨0, 0, none, Nat.zero_le _, rfl, rfl, rfl, World.ownsRow_nil _ _ _ _, Below.refl _ _⟩
            case round =>
              obtain ⟨i, cM, d, hi, rfl, rfl, rfl, hcp, hbw⟩ := hrel
              have CM := hiddenN hcp
              have BW := hiddenN hbw
              clear hcp hbw
              have x1 := (X2.out.keep (BW.out.block _ hxQ)).cell (k := 1) rfl
              simp only [List.getElem_toArray, List.getElem_cons_zero, List.getElem_cons_succ] at x1
              have hQr : Q ≤ wr.heap.size := Nat.le_trans hQ2 BW.out.size
              by_cases hlt : i < N
              · have hiI : (i : Int) < (N : Int) := by omega
                have hiR : i < R.length := by rw [HRl.out]; exact hlt
                rcases R2.out.at with e | ⟨rb, ro, er, hcr⟩
                · rw [e] at hiR; exact absurd hiR (Nat.not_lt_zero _)
                cases er
                have c0 := cell_block (BW.out.block _ hgQ) (hcr i hiR)
                rw [Nat.zero_add] at c0
                have hw := hg.out.win i hiR
                have TS := hiddenN (sc_take (k := k) hiR)
                have hSl : (scU k (R.take i)).length = i := by rw [scU_len, List.length_take]; omega
                clear hcr
                generalize nth R i = r at *
                have hm1 : k * r ≤ 8 * r := Int.mul_le_mul_of_nonneg_right hk8 (by omega)
                have hm2 : 0 ≤ k * r := Int.mul_nonneg (by omega) (by omega)
                have hwr : IntKind.i64.wrap (k * r) = k * r := by rw [IntKind.wrap_i64]; omega
                obtain ⟨kr, hkr⟩ : ∃ q, k * r = q := ⟨_, rfl⟩
                have HKR := hiddenN hkr
                have ba := (Below.refl wr.heap.size wr).alloc (Nat.le_refl _) (.cells #[.int .i64 (k * r)] 3)
                have AX := hiddenN (at_alloc1 wr (k * r))
                have CX := hiddenN (CM.out.later ba)
                have BX := hiddenN (BW.out.trans (ba.mono hQr))
                have hQx : Q ≤ (wr.alloc (.cells #[.int .i64 (k * r)] 3)).heap.size := Nat.le_trans hQr ba.size
                clear ba hkr
                generalize hM : scU k (R.take i) = M at *
                go_wp2_with (at_builtin; refine wpList_appI rfl _ _ rfl Q d cM M (by rw [hSl]; rfl) CX.out (some ⟨wr.heap.size, 0, none⟩) 1 [k * r] rfl (fun e => by cases e) AX.out (by simp; omega) hQx (i + 1) (M ++ [k * r]) (by rw [hSl]; rfl) rfl ?_; intro d3 c3 W3 hd3 b3; have C3 := hiddenN hd3; have B3 := hiddenN (BX.out.trans b3); clear hd3 b3)
                go_roundg (N - (i + 1))
                case measure => omega
                case rel => exact ⟨i + 1, c3, d3, by omega, rfl, by go_num, rfl, by rw [TS.out]; exact C3.out, B3.out⟩
              · have ei : i = N := by omega
                subst ei
                have HT : Hid (R.take i = R) := List.take_of_length_le (by rw [HRl.out]; exact Nat.le_refl _)
                rw [HT.out] at CM
                have LW := hiddenN (L2.out.trans (BW.out.mono (Nat.le_of_lt hnQ)))
                have N3 := hiddenN (N2.out.keep (BW.out.block _ hnQ))
                have R3 := hiddenN (R2.out.at.keep fun y hy => by cases hy; exact BW.out.block _ hgQ)
                have SR1 : Hid (∀ U, Below w.heap.size w U → At U (some ⟨g, 0, none⟩) R → Calls Try.prog 7 #[.agg #[.int .i64 n.nodes, .slice a n.arcs.length c], .slice (some ⟨g, 0, none⟩) i c1, .slice none 0 0] U fun e w' => ∃ d1 c1 d2 c2, e = .returned (.tuple #[.agg #[.slice d1 (lisU n R []).length c1, .slice d2 (stkU n R []).length c2], .int .i64 (errU n R [])]) ∧ CapR U.heap.size w' d1 c1 (lisU n R []) ∧ CapB U.heap.size w' d2 c2 (stkU n R []) ∧ Below U.heap.size U w') := fun U hU hr => by
                  have q := SR.out R (some ⟨g, 0, none⟩) c1 U hU hr (by rw [HRl.out]; omega) (fun e => by cases e)
                  rw [HRl.out] at q
                  exact q
                have hMl : (scU k R).length = i := by rw [scU_len, HRl.out]
                obtain ⟨gm, hdm, -, -⟩ := CM.out.there (by omega)
                subst hdm
                have SR2 : Hid (∀ U, Below w.heap.size w U → At U (some ⟨gm, 0, none⟩) (scU k R) → Calls Try.prog 7 #[.agg #[.int .i64 n.nodes, .slice a n.arcs.length c], .slice (some ⟨gm, 0, none⟩) i cM, .slice none 0 0] U fun e w' => ∃ d1 c1 d2 c2, e = .returned (.tuple #[.agg #[.slice d1 (lisU n (scU k R) []).length c1, .slice d2 (stkU n (scU k R) []).length c2], .int .i64 (errU n (scU k R) [])]) ∧ CapR U.heap.size w' d1 c1 (lisU n (scU k R) []) ∧ CapB U.heap.size w' d2 c2 (stkU n (scU k R) []) ∧ Below U.heap.size U w') := fun U hU hr => by
                  have q := SR.out (scU k R) (some ⟨gm, 0, none⟩) cM U hU hr (by omega) (fun e => by cases e)
                  rw [hMl] at q
                  exact q
                have TE := hiddenN (times_err (n := n) (R := R) (k := k) hk1 HB.out)
                have TI := hiddenN (fun h1 h2 => times_iff (n := n) (R := R) hk1 hk8 h1 h2)
                have TL := hiddenN (fun h1 h2 => times_len (n := n) (R := R) hk1 hk8 h1 h2)
                have K1 : Hid (errU n R [] = 0 → (stkU n R []).length = (bloU n R []).length) := fun e => by unfold stkU; rw [if_pos e]
                have K2 : Hid (errU n (scU k R) [] = 0 → (stkU n (scU k R) []).length = (bloU n (scU k R) []).length) := fun e => by unfold stkU; rw [if_pos e]
                have LL : Hid (errU n R [] = 0 → (lisU n R []).length ≤ 2048) := fun e => by
                  have hf := fin_of e
                  have := fin_len hf
                  unfold lisU
                  rw [if_pos e]
                  split
                  · exact this
                  · simp
                generalize (lisU n R []).length = l3 at *
                generalize (stkU n R []).length = l4 at *
                generalize (lisU n (scU k R) []).length = l5 at *
                generalize (stkU n (scU k R) []).length = l6 at *
                obtain ⟨x, hx⟩ : ∃ x, errU n R [] = x := ⟨_, rfl⟩
                obtain ⟨y, hy⟩ : ∃ x, errU n (scU k R) [] = x := ⟨_, rfl⟩
                rw [hx] at SR1 TE K1 TI TL LL
                rw [hy] at SR2 TE K2 TI TL
                clear hx hy SR hMl X2
                have y0 := N3.out.cell (k := 0) rfl
                have y1 := N3.out.cell (k := 1) rfl
                simp only [List.getElem_toArray, List.getElem_cons_zero, List.getElem_cons_succ] at y0 y1
                go_upto_region 10 with (go_at_call 7; (with_reducible refine (SR1.out wr LW.out R3.out).mono ?_); rintro e WA ⟨d3, c3, d4, c4, rfl, -, -, b1⟩; have LA := hiddenN (LW.out.trans (b1.mono LW.out.size)); have NA' := hiddenN (N3.out.below b1); have CA := hiddenN (CM.out.at.below b1); clear b1)
                have b2 := (Below.refl WA.heap.size WA).alloc (Nat.le_refl _) (.cells #[.slice d3 l3 c3, .slice d4 l4 c4] 29)
                have XB := hiddenN (blkA_new 29 WA #[.slice d3 l3 c3, .slice d4 l4 c4])
                have LB := hiddenN (LA.out.trans (b2.mono LA.out.size))
                have NB := hiddenN (NA'.out.below b2)
                have CB := hiddenN (CA.out.below b2)
                obtain ⟨xa, hxa⟩ : ∃ q, WA.heap.size = q := ⟨_, rfl⟩
                rw [hxa] at XB ⊢
                clear b2 y0 y1 LA NA' CA hxa x1
                generalize WA.alloc (.cells #[.slice d3 l3 c3, .slice d4 l4 c4] 29) = WB at *
                have y0 := NB.out.cell (k := 0) rfl
                have y1 := NB.out.cell (k := 1) rfl
                simp only [List.getElem_toArray, List.getElem_cons_zero, List.getElem_cons_succ] at y0 y1
                go_upto_region 11 with (go_at_call 7; (with_reducible refine (SR2.out WB LB.out CB.out).mono ?_); rintro e WD ⟨d5, c5, d6, c6, rfl, -, -, b1⟩; have LD := hiddenN (LB.out.trans (b1.mono LB.out.size)); have XD := hiddenN (XB.out.below b1); clear b1)
                have b2 := (Below.refl WD.heap.size WD).alloc (Nat.le_refl _) (.cells #[.slice d5 l5 c5, .slice d6 l6 c6] 29)
                have XF := hiddenN (blkA_new 29 WD #[.slice d5 l5 c5, .slice d6 l6 c6])
                have XE := hiddenN (XD.out.below b2)
                have LE := hiddenN (LD.out.trans (b2.mono LD.out.size))
                obtain ⟨xd, hxd⟩ : ∃ q, WD.heap.size = q := ⟨_, rfl⟩
                rw [hxd] at XF ⊢
                clear b2 y0 y1 LD XD hxd NB CB XB
                generalize WD.alloc (.cells #[.slice d5 l5 c5, .slice d6 l6 c6] 29) = WE at *
                have z0 := XE.out.cell (k := 0) rfl
                have z1 := XE.out.cell (k := 1) rfl
                have u0 := XF.out.cell (k := 0) rfl
                have u1 := XF.out.cell (k := 1) rfl
                simp only [List.getElem_toArray, List.getElem_cons_zero, List.getElem_cons_succ] at z0 z1 u0 u1
                obtain ⟨t1, t2⟩ := TE.out
                rcases t1 with e | ⟨e, hy0⟩
                · subst e
                  rcases t2 with e | e | e
                  · subst e
                    have hll := LL.out rfl
                    have hl := TL.out rfl rfl
                    have hwl : IntKind.i64.wrap (k * (l3 : Int)) = k * (l3 : Int) := by
                      have h1 : k * (l3 : Int) ≤ 8 * (l3 : Int) := Int.mul_le_mul_of_nonneg_right hk8 (by omega)
                      have h2 : 0 ≤ k * (l3 : Int) := Int.mul_nonneg (by omega) (by omega)
                      rw [IntKind.wrap_i64]; omega
                    have hle : ((l5 : Int) == k * (l3 : Int)) = true := by simpa using hl
                    have k1' := K1.out rfl
                    have k2' := K2.out rfl
                    have ti := TI.out rfl rfl
                    by_cases hb : bloU n R [] = []
                    · have h4 : l4 = 0 := by rw [k1', hb]; rfl
                      have h6 : l6 = 0 := by rw [k2', ti.1 hb]; rfl
                      subst h4
                      subst h6
                      clear ti k1' k2' hb TE K1 K2 TI TL LL hl
                      go_wp2_with (go_at_call 11; (with_reducible refine (AW.out _).mono ?_); rintro e W9 ⟨rfl, bw⟩; have L9 := hiddenN (LE.out.trans (bw.mono LE.out.size)); clear bw)
                      go_ret
                      exact ⟨by first | rfl | simp, L9.out⟩
                    · have hb2 : ¬ bloU n (scU k R) [] = [] := fun e => hb (ti.2 e)
                      have h4 : l4 ≠ 0 := fun e => hb (List.eq_nil_of_length_eq_zero (by rw [← k1']; exact e))
                      have h6 : l6 ≠ 0 := fun e => hb2 (List.eq_nil_of_length_eq_zero (by rw [← k2']; exact e))
                      have h4b : ((l4 : Int) == 0) = false := by simpa using h4
                      have h6b : ((l6 : Int) == 0) = false := by simpa using h6
                      clear ti k1' k2' hb hb2 TE K1 K2 TI TL LL hl
                      go_wp2_with (go_at_call 11; (with_reducible refine (AW.out _).mono ?_); rintro e W9 ⟨rfl, bw⟩; have L9 := hiddenN (LE.out.trans (bw.mono LE.out.size)); clear bw)
                      go_ret
                      exact ⟨by first | rfl | simp, L9.out⟩
                  · subst e
                    clear TE K1 K2 TI TL LL
                    go_wp2_with (go_at_call 11; (with_reducible refine (AW.out _).mono ?_); rintro e W9 ⟨rfl, bw⟩; have L9 := hiddenN (LE.out.trans (bw.mono LE.out.size)); clear bw)
                    go_ret
                    exact ⟨by first | rfl | simp, L9.out⟩
                  · subst e
                    clear TE K1 K2 TI TL LL
                    go_wp2_with (go_at_call 11; (with_reducible refine (AW.out _).mono ?_); rintro e W9 ⟨rfl, bw⟩; have L9 := hiddenN (LE.out.trans (bw.mono LE.out.size)); clear bw)
                    go_ret
                    exact ⟨by first | rfl | simp, L9.out⟩
                · subst e
                  rcases t2 with e | e | e
                  · exact absurd e hy0
                  · subst e
                    clear TE K1 K2 TI TL LL
                    go_wp2_with (go_at_call 11; (with_reducible refine (AW.out _).mono ?_); rintro e W9 ⟨rfl, bw⟩; have L9 := hiddenN (LE.out.trans (bw.mono LE.out.size)); clear bw)
                    go_ret
                    exact ⟨by first | rfl | simp, L9.out⟩
                  · subst e
                    clear TE K1 K2 TI TL LL
                    go_wp2_with (go_at_call 11; (with_reducible refine (AW.out _).mono ?_); rintro e W9 ⟨rfl, bw⟩; have L9 := hiddenN (LE.out.trans (bw.mono LE.out.size)); clear bw)
                    go_ret
                    exact ⟨by first | rfl | simp, L9.out⟩
  · have SO := hiddenN (solve_bad hc a c _ HA.out hroom)
    have hne : (checkN n != 0) = true := by simpa using hc
    generalize checkN n = x at *
    clear SR
    go_enter Try.func4, Try.ntmps4
    go_upto_region 1 with fail
    generalize (w.alloc (.cells #[.int .i64 n.nodes, .slice a n.arcs.length c] 24)) = W0 at *
    go_upto_region 2 with (go_at_call 12; (with_reducible refine SO.out.mono ?_); rintro e W1 ⟨d1, c1, d2, c2, rfl, b1⟩; have L1 := hiddenN (B0.out.trans (b1.mono B0.out.size)); have N1 := hiddenN (X0.out.below b1); clear b1)
    have b2 := (Below.refl W1.heap.size W1).alloc (Nat.le_refl _) (.cells #[.int .u8 0, .slice d1 0 c1, .slice d2 0 c2] 43)
    have X2 := hiddenN (blkA_new 43 W1 #[.int .u8 0, .slice d1 0 c1, .slice d2 0 c2])
    have L2 := hiddenN (L1.out.trans (b2.mono L1.out.size))
    have N2 := hiddenN (N1.out.below b2)
    obtain ⟨xb, hxb⟩ : ∃ q, W1.heap.size = q := ⟨_, rfl⟩
    rw [hxb] at X2 ⊢
    clear b2 y0 y1 L1 N1 SO X0 B0 hxb
    generalize W1.alloc (.cells #[.int .u8 0, .slice d1 0 c1, .slice d2 0 c2] 43) = W2 at *
    have x0 := X2.out.cell (k := 0) rfl
    have x1 := X2.out.cell (k := 1) rfl
    have y0 := N2.out.cell (k := 0) rfl
    have y1 := N2.out.cell (k := 1) rfl
    simp only [List.getElem_toArray, List.getElem_cons_zero, List.getElem_cons_succ] at x0 x1 y0 y1
    go_wp2_with (go_at_call 11; (with_reducible refine (AW.out _).mono ?_); rintro e W9 ⟨rfl, bw⟩; have L9 := hiddenN (L2.out.trans (bw.mono L2.out.size)); clear bw)
    go_ret
    exact ⟨by first | rfl | simp, L9.out⟩
end Go.Proofs.Ytigodedloogbcaa
