/- Texts of one chain, laid one behind the other. -/
import Derived.Test.YtecmkienoofccaaPartBalanceLeast25
import Derived.Test.YtecmkienoofccaaPartBalanceLeast26
namespace Go.Proofs.Ytecmkienoofccaa
open Go.ChangeShapes Go.WideShapes Go.ChangeAt Go.RowKit
theorem SoundN.taken {n : NN} (h : SoundN n) {x : Int × Bool} (hx : inW n.arcs x = true) : (1 ≤ (tkW n.arcs x).g ∧ (tkW n.arcs x).g ≤ 64) ∧ (1 ≤ (tkW n.arcs x).k ∧ (tkW n.arcs x).k ≤ 64) ∧ (0 ≤ stW n.arcs x ∧ stW n.arcs x < n.nodes) ∧ (0 ≤ enW n.arcs x ∧ enW n.arcs x < n.nodes) := by
  obtain ⟨h1, h2⟩ := inW_iff.1 hx
  have hs := h.arcs x.1.toNat (by omega)
  unfold stW enW tkW
  split
  · exact ⟨hs.k, hs.g, hs.t, hs.f⟩
  · exact ⟨hs.g, hs.k, hs.f, hs.t⟩
/-- Counts that hold, for any node. -/
def extB (N : Nat) (R : List Int) : Nat → Nat := fun v => if v < N then natB R v else 1
theorem ho_yes {n : NN} {R : List Int} (h : hoB n R = true) : checkN n = 0 ∧ (R.length : Int) = n.nodes ∧ winB R = true ∧ ∀ j, j < n.arcs.length → EvB n.arcs (natB R) j := by
  unfold hoB at h
  rw [Bool.and_eq_true, Bool.and_eq_true, Bool.and_eq_true, decide_eq_true_eq, decide_eq_true_eq] at h
  obtain ⟨h1, h2, h3, h4⟩ := h
  refine ⟨h1, h2, h3, fuB_all ?_⟩
  cases q : fuB n.arcs (natB R) with
  | none => rfl
  | some i => rw [q] at h4; cases h4
theorem ho_ext {n : NN} {R : List Int} (h : hoB n R = true) : (∀ v, 1 ≤ extB n.nodes.toNat R v) ∧ (∀ j, j < n.arcs.length → EvB n.arcs (extB n.nodes.toNat R) j) ∧ ∀ v, v < n.nodes.toNat → extB n.nodes.toNat R v = natB R v ∧ natB R v ≤ 4096 ∧ nth R v = (natB R v : Int) := by
  obtain ⟨h1, h2, h3, h4⟩ := ho_yes h
  have hS := check_sound h1
  have SB := hS.souB
  have hw := winB_iff.1 h3
  refine ⟨fun v => ?_, fun j hj => ?_, fun v hv => ?_⟩
  · unfold extB
    split
    · rename_i hv
      have := hw v (by omega)
      unfold natB
      omega
    · exact Nat.le_refl _
  · obtain ⟨q1, q2⟩ := SB.arc j hj
    have q := h4 j hj
    unfold EvB at q ⊢
    unfold extB
    rw [if_pos q1, if_pos q2]
    exact q
  · have := hw v (by omega)
    refine ⟨if_pos hv, ?_, ?_⟩ <;> (unfold natB; omega)
/-- If some counts hold, the answer is steady. -/
theorem ho_steady {n : NN} {R : List Int} (h : hoB n R = true) : bigA n = false ∧ fuB n.arcs (cnt n) = none := by
  obtain ⟨h1, h2, h3, h4⟩ := ho_yes h
  obtain ⟨e1, e2, e3⟩ := ho_ext h
  have SB := (check_sound h1).souB
  obtain ⟨q1, q2⟩ := holdB SB.rat e1 e2
  refine ⟨bigN_no.2 fun v hv => ?_, fuB_none q1⟩
  have := (q2 v).2
  have := e3 v hv
  show cntB _ _ v ≤ _
  omega
theorem row_cell {w : World} {a : Option Addr} {N : Nat} {f : Nat → Nat} (h : At w a (rowF N f)) {v : Nat} (hv : v < N) : ∃ b off, a = some ⟨b, off, none⟩ ∧ ∀ v, v < N → w.cell? ⟨b, off + v, none⟩ = some (.int .i64 (f v : Int)) := by
  rcases h with e | ⟨b, off, e, hc⟩
  · have := rowF_len N f
    rw [e] at this
    simp at this
    omega
  · refine ⟨b, off, e, fun u hu => ?_⟩
    have := hc u (by rw [rowF_len]; exact hu)
    rw [rowF_nth hu] at this
    exact this
theorem tdivB (q c : Nat) (hc : 1 ≤ c) : ((q * c : Nat) : Int).tdiv (c : Int) = (q : Int) := by
  rw [Int.natCast_mul]
  exact Int.mul_tdiv_cancel _ (by omega)
theorem tmodB (q c : Nat) : ((q * c : Nat) : Int).tmod (c : Int) = 0 := by
  rw [Int.natCast_mul]
  exact Int.mul_tmod_left _ _
set_option maxRecDepth 100000 in
set_option maxHeartbeats 16000000 in
theorem times_yes {N : Nat} {A : List NA} (r c q : Nat → Nat) (a ra d : Option Addr) (ac rc dc : Nat) (w : World) (hS : SouB A N) (hN : N ≤ 1000) (hA : A.length ≤ 1000) (hq : ∀ v, v < N → r v = q v * c v ∧ 1 ≤ c v ∧ r v ≤ 4096 ∧ q v ≤ 4096) (he : ∀ j, j < A.length → q (fN A j) = q (tN A j)) (h1 : AtN w a A) (h2 : At w ra (rowF N r)) (h3 : At w d (rowF N c)) :
    Calls Try.prog 21 #[.agg #[.int .i64 (N : Int), .slice a A.length ac], .slice ra N rc, .slice d N dc] w fun e w' => e = .returned (.bool true) ∧ Below w.heap.size w w' := by
  have b0 := (Below.refl w.heap.size w).alloc (Nat.le_refl _) (.cells #[.int .i64 (N : Int), .slice a A.length ac] 24)
  have X0 := hiddenN (blkA_new 24 w #[.int .i64 (N : Int), .slice a A.length ac])
  have B0 := hiddenN b0
  have K1 := hiddenN (h1.below b0)
  have K2 := hiddenN (h2.below b0)
  have K3 := hiddenN (h3.below b0)
  have HS := hiddenN hS
  have HQ := hiddenN hq
  have HE := hiddenN he
  clear b0 h1 h2 h3 hS hq he
  go_enter Try.func21, Try.ntmps21
  go_upto_region 1 with fail
  generalize w.alloc (.cells #[.int .i64 (N : Int), .slice a A.length ac] 24) = W0 at *
  go_wp2
  go_loopg [7] N (fun gk u wr => ∃ v : Nat, v ≤ N ∧ gk = N - v ∧ u = .int .i64 (v : Int) ∧ Below W0.heap.size W0 wr)
  case atStart => exact ⟨0, Nat.zero_le _, rfl, rfl, Below.refl _ _⟩
  case round =>
    obtain ⟨v, hvN, rfl, rfl, hBr⟩ := hrel
    have BR := hiddenN hBr
    clear hBr
    have y0 := (X0.out.below BR.out).cell (k := 0) rfl
    have y1 := (X0.out.below BR.out).cell (k := 1) rfl
    simp only [List.getElem_toArray, List.getElem_cons_zero, List.getElem_cons_succ] at y0 y1
    by_cases hlt : v < N
    · have hki : (v : Int) < (N : Int) := by omega
      obtain ⟨rb, ro, er, hcr⟩ := row_cell (K2.out.below BR.out) hlt
      obtain ⟨db, dof, ed, hcd⟩ := row_cell (K3.out.below BR.out) hlt
      have r0 := hcr v hlt
      have d0 := hcd v hlt
      obtain ⟨g1, g2, g3, g4⟩ := HQ.out v hlt
      have hm : ((r v : Nat) : Int).tmod (c v : Int) = 0 := by rw [g1]; exact tmodB _ _
      have w1 : IntKind.i64.wrap (((r v : Nat) : Int).tmod (c v : Int)) = 0 := by rw [hm]; decide
      have hn1 : ¬ ((c v : Int) < 1) := by omega
      have hn0 : ¬ ((c v : Int) = 0) := by omega
      subst er
      subst ed
      clear hcr hcd g1 g2 g3 g4
      generalize ((r v : Nat) : Int) = rv at *
      generalize ((c v : Nat) : Int) = cv at *
      go_upto_region 4 with fail
      go_quiet (fail)
      have BS := hiddenN (BR.out.trans ((drewF wr nq).mono BR.out.size))
      clear r0 d0 y0 y1
      generalize wr.drewN nq = W4 at *
      go_wp2
      go_roundg (N - (v + 1))
      case measure => omega
      case rel => exact ⟨v + 1, by omega, rfl, by go_num, BS.out⟩
    · have hki : ¬ (v : Int) < (N : Int) := by omega
      obtain ⟨W1, hW1⟩ : ∃ q, wr = q := ⟨_, rfl⟩
      rw [hW1] at BR y0 y1 ⊢
      clear hW1
      go_wp2
      go_loopg [8] A.length (fun gk u wr => ∃ j : Nat, j ≤ A.length ∧ gk = A.length - j ∧ u = .int .i64 (j : Int) ∧ Below W0.heap.size W0 wr)
      case atStart => exact ⟨0, Nat.zero_le _, rfl, rfl, BR.out⟩
      case round =>
        clear BR y0 y1
        obtain ⟨j, hjN, rfl, rfl, hBr⟩ := hrel
        have BR := hiddenN hBr
        clear hBr
        have y0 := (X0.out.below BR.out).cell (k := 0) rfl
        have y1 := (X0.out.below BR.out).cell (k := 1) rfl
        simp only [List.getElem_toArray, List.getElem_cons_zero, List.getElem_cons_succ] at y0 y1
        by_cases hjl : j < A.length
        · have hji : (j : Int) < (A.length : Int) := by omega
          obtain ⟨e1, e2, e3, e4, hf, ht, -⟩ := HS.out.ends j hjl
          rcases K1.out.below BR.out with e | ⟨nb, no, en, hcn⟩
          · rw [e] at hjl; exact absurd hjl (Nat.not_lt_zero _)
          obtain ⟨a0, a1, a2, a3, a4⟩ := hcn j hjl
          rw [e1] at a0
          rw [e2] at a1
          subst en
          obtain ⟨f1, f2, f3, f4⟩ := HQ.out _ hf
          obtain ⟨t1, t2, t3, t4⟩ := HQ.out _ ht
          have hqq := HE.out j hjl
          have q1 : ((r (fN A j) : Nat) : Int).tdiv (c (fN A j) : Int) = (q (fN A j) : Int) := by rw [f1]; exact tdivB _ _ f2
          have q2 : ((r (tN A j) : Nat) : Int).tdiv (c (tN A j) : Int) = (q (fN A j) : Int) := by rw [t1, hqq]; exact tdivB _ _ t2
          have w0 : IntKind.i64.wrap (q (fN A j) : Int) = (q (fN A j) : Int) := by rw [IntKind.wrap_i64]; omega
          have w1 : IntKind.i64.wrap (((r (fN A j) : Nat) : Int).tdiv (c (fN A j) : Int)) = (q (fN A j) : Int) := by rw [q1]; exact w0
          have w2 : IntKind.i64.wrap (((r (tN A j) : Nat) : Int).tdiv (c (tN A j) : Int)) = (q (fN A j) : Int) := by rw [q2]; exact w0
          have n1 : ¬ ((c (fN A j) : Int) = 0) := by omega
          have n2 : ¬ ((c (tN A j) : Int) = 0) := by omega
          clear hcn e1 e2 e3 e4 f1 f2 f3 f4 t1 t2 t3 t4 hqq w0
          generalize (nthNa A j).g = ag at *
          generalize (nthNa A j).k = ak at *
          generalize (nthNa A j).s = az at *
          go_upto_region 10 with fail
          have bs := (Below.refl wr.heap.size wr).alloc (Nat.le_refl _) (.cells #[.int .i64 (fN A j : Int), .int .i64 (tN A j : Int), .int .i64 ag, .int .i64 ak, .int .i64 az] 52)
          have XS := hiddenN (blkA_new 52 wr #[.int .i64 (fN A j : Int), .int .i64 (tN A j : Int), .int .i64 ag, .int .i64 ak, .int .i64 az])
          have L1 := hiddenN (BR.out.trans (bs.mono BR.out.size))
          obtain ⟨ab, hab⟩ : ∃ q, wr.heap.size = q := ⟨_, rfl⟩
          rw [hab] at XS ⊢
          generalize wr.alloc (.cells #[.int .i64 (fN A j : Int), .int .i64 (tN A j : Int), .int .i64 ag, .int .i64 ak, .int .i64 az] 52) = W5 at *
          clear bs hab a0 a1 a2 a3 a4 BR y0 y1
          have x0 := XS.out.cell (k := 0) rfl
          have x1 := XS.out.cell (k := 1) rfl
          simp only [List.getElem_toArray, List.getElem_cons_zero, List.getElem_cons_succ] at x0 x1
          obtain ⟨rb, ro, er, hcr⟩ := row_cell (K2.out.below L1.out) hf
          obtain ⟨db, dof, ed, hcd⟩ := row_cell (K3.out.below L1.out) hf
          have r0 := hcr _ hf
          have r1 := hcr _ ht
          have d0 := hcd _ hf
          have d1 := hcd _ ht
          have hfI : (fN A j : Int) < (N : Int) := by omega
          have htI : (tN A j : Int) < (N : Int) := by omega
          subst er
          subst ed
          clear hcr hcd XS
          generalize ((r (fN A j) : Nat) : Int) = rf at *
          generalize ((r (tN A j) : Nat) : Int) = rt at *
          generalize ((c (fN A j) : Nat) : Int) = cf at *
          generalize ((c (tN A j) : Nat) : Int) = ct at *
          generalize ((q (fN A j) : Nat) : Int) = qf at *
          have hbe : (qf != qf) = false := by simp
          generalize fN A j = f at *
          generalize tN A j = t at *
          go_quiet (fail)
          have BS := hiddenN (L1.out.trans ((drewF W5 nq).mono L1.out.size))
          clear r0 r1 d0 d1 x0 x1 L1
          generalize W5.drewN nq = W6 at *
          go_wp2
          go_roundg (A.length - (j + 1))
          case measure => omega
          case rel => exact ⟨j + 1, by omega, rfl, by go_num, BS.out⟩
        · have hji : ¬ (j : Int) < (A.length : Int) := by omega
          go_wp2
          go_ret
          exact ⟨rfl, B0.out.trans (BR.out.mono B0.out.size)⟩
/-- The least counts hold. -/
theorem ho_least {n : NN} (hc : checkN n = 0) (hb : bigA n = false) (hf : fuB n.arcs (cnt n) = none) : hoB n (rowF n.nodes.toNat (cnt n)) = true ∧ hoE n (rowF n.nodes.toNat (cnt n)) = 0 := by
  have hS := check_sound hc
  have SB := hS.souB
  have hN := hS.nodes
  have hw : winB (rowF n.nodes.toNat (cnt n)) = true := by
    show winB (rowF n.nodes.toNat (cntB n.arcs n.arcs.length)) = true
    rw [win_row fun v => cntB_pos SB.rat (Nat.le_refl _) v]
    have : bigN (cntB n.arcs n.arcs.length) n.nodes.toNat = false := hb
    rw [this]
    rfl
  obtain ⟨e1, e2⟩ := ho_fu (R := rowF n.nodes.toNat (cnt n)) hc (by rw [rowF_len]; omega) hw
  refine ⟨?_, e2⟩
  rw [e1]
  have : fuB n.arcs (natB (rowF n.nodes.toNat (cnt n))) = none := fuB_none fun j hj => by
    obtain ⟨q1, q2⟩ := SB.arc j hj
    have q := fuB_all hf j hj
    unfold EvB at q ⊢
    have k : ∀ v, v < n.nodes.toNat → natB (rowF n.nodes.toNat (cnt n)) v = cnt n v := fun v hv => by
      unfold natB
      rw [rowF_nth hv]
      rfl
    rw [k _ q1, k _ q2]
    exact q
  rw [this]
  rfl
/-- What holds is a multiple. -/
theorem ho_mult {n : NN} {R : List Int} (h : hoB n R = true) : ∃ q : Nat → Nat, (∀ v, v < n.nodes.toNat → natB R v = q v * cnt n v ∧ 1 ≤ cnt n v ∧ natB R v ≤ 4096 ∧ q v ≤ 4096) ∧ ∀ j, j < n.arcs.length → q (fN n.arcs j) = q (tN n.arcs j) := by
  obtain ⟨h1, -⟩ := ho_yes h
  obtain ⟨e1, e2, e3⟩ := ho_ext h
  have SB := (check_sound h1).souB
  obtain ⟨m, hm⟩ := mulB SB.rat (Nat.le_refl _) (r := extB n.nodes.toNat R) (fun j hj => e2 j (treF_lt hj))
  refine ⟨fun v => m (homF n.arcs n.arcs.length v), fun v hv => ?_, fun j hj => by show m _ = m _; rw [(forF n.arcs n.arcs.length).ends j hj]⟩
  obtain ⟨k1, k2, k3⟩ := e3 v hv
  have hp : 1 ≤ cnt n v := cntB_pos SB.rat (Nat.le_refl _) v
  have hq := hm v
  rw [k1] at hq
  refine ⟨hq, hp, k2, ?_⟩
  have : m (homF n.arcs n.arcs.length v) ≤ m (homF n.arcs n.arcs.length v) * cnt n v := Nat.le_mul_of_pos_right _ hp
  have hq' : natB R v = m (homF n.arcs n.arcs.length v) * cnt n v := hq
  rw [← hq'] at this
  exact Nat.le_trans this k2
set_option maxRecDepth 100000 in
set_option maxHeartbeats 16000000 in
theorem balanceLeast_walk (n : NN) (a : Option Addr) (c : Nat) (ra : Option Addr) (rlen rc : Nat) (rs : List Int) (w : World) (h : ArgN w a c n) (hr : Arg w ra rlen rc rs) : Calls Try.prog 6 #[.agg #[.int .i64 n.nodes, .slice a n.arcs.length c], .slice ra rlen rc] w fun e w' => e = .returned (.bool true) ∧ Below w.heap.size w w' := by
  have b0 := (Below.refl w.heap.size w).alloc (Nat.le_refl _) (.cells #[.int .i64 n.nodes, .slice a n.arcs.length c] 24)
  have X0 := hiddenN (blkA_new 24 w #[.int .i64 n.nodes, .slice a n.arcs.length c])
  have B0 := hiddenN b0
  have HA := hiddenN (h.below b0)
  have hroom : n.arcs.length ≤ 4611686018427387904 := by have := h.room; omega
  have AW : Hid (∀ U, Calls Try.prog 13 #[] U fun e w' => e = .returned (.bool true) ∧ Below U.heap.size U w') := fun U => awakeB U
  have y0 := X0.out.cell (k := 0) rfl
  have y1 := X0.out.cell (k := 1) rfl
  simp only [List.getElem_toArray, List.getElem_cons_zero, List.getElem_cons_succ] at y0 y1
  have HR : Hid (∀ U, Below w.heap.size w U → At U ra rs) := fun U hU => hr.lies.below hU
  have hrl := hr.reach
  have hrs := hr.size
  have HO := hiddenN (fun (U : World) (g1 : AtN U a n.arcs) (g2 : At U ra rs) => holds_any n a c rs ra rc U g1 hroom g2 (by omega))
  rw [hrs] at HO
  have HRS := hiddenN hrs
  clear b0 h hr hrs
  by_cases hc : checkN n = 0
  · cases hb : bigA n with
    | true =>
      have SO := hiddenN (solve_big hc hb a c _ HA.out.lies hroom)
      have hno : hoB n rs = false := by
        cases q : hoB n rs with
        | false => rfl
        | true => rw [(ho_steady q).1] at hb; cases hb
      rw [hno] at HO
      clear hc hb hno
      generalize hoE n rs = he at *
      go_enter Try.func6, Try.ntmps6
      go_upto_region 1 with fail
      generalize w.alloc (.cells #[.int .i64 n.nodes, .slice a n.arcs.length c] 24) = W0 at *
      go_upto_region 2 with (go_at_call 16; (with_reducible refine SO.out.mono ?_); rintro e W1 ⟨d1, c1, d2, c2, rfl, b1⟩; have L1 := hiddenN (B0.out.trans (b1.mono B0.out.size)); have N1 := hiddenN (X0.out.below b1); have A1 := hiddenN (HA.out.below b1); clear b1)
      clear SO y0 y1
      have b2 := (Below.refl W1.heap.size W1).alloc (Nat.le_refl _) (.cells #[.int .u8 3, .slice d1 0 c1, .slice d2 0 c2] 37)
      have X2 := hiddenN (blkA_new 37 W1 #[.int .u8 3, .slice d1 0 c1, .slice d2 0 c2])
      have L2 := hiddenN (L1.out.trans (b2.mono L1.out.size))
      have N2 := hiddenN (N1.out.below b2)
      have A2 := hiddenN (A1.out.below b2)
      obtain ⟨xb, hxb⟩ : ∃ q, W1.heap.size = q := ⟨_, rfl⟩
      rw [hxb] at X2 ⊢
      clear b2 L1 N1 A1 hxb X0 B0 HA
      generalize W1.alloc (.cells #[.int .u8 3, .slice d1 0 c1, .slice d2 0 c2] 37) = W2 at *
      have x0 := X2.out.cell (k := 0) rfl
      have x1 := X2.out.cell (k := 1) rfl
      have x2 := X2.out.cell (k := 2) rfl
      have y0 := N2.out.cell (k := 0) rfl
      have y1 := N2.out.cell (k := 1) rfl
      simp only [List.getElem_toArray, List.getElem_cons_zero, List.getElem_cons_succ] at x0 x1 x2 y0 y1
      go_wp2_with (first
        | (go_at_call 13; (with_reducible refine (AW.out _).mono ?_); rintro e W4 ⟨rfl, bw⟩; have L4 := hiddenN (L3.out.trans (bw.mono L3.out.size)); clear bw)
        | (go_at_call 11; (with_reducible refine (HO.out _ A2.out.lies (HR.out _ L2.out)).mono ?_); rintro e W3 ⟨rfl, bh⟩; have L3 := hiddenN (L2.out.trans (bh.mono L2.out.size)); have BH := hiddenN bh; have x0 := (X2.out.below bh).cell (k := 0) rfl; have x1 := (X2.out.below bh).cell (k := 1) rfl; have x2 := (X2.out.below bh).cell (k := 2) rfl; simp only [List.getElem_toArray, List.getElem_cons_zero, List.getElem_cons_succ] at x0 x1 x2; have y0 := (N2.out.below bh).cell (k := 0) rfl; have y1 := (N2.out.below bh).cell (k := 1) rfl; simp only [List.getElem_toArray, List.getElem_cons_zero, List.getElem_cons_succ] at y0 y1; clear bh))
      go_ret
      exact ⟨rfl, L4.out⟩
    | false =>
      cases hf : fuB n.arcs (cnt n) with
      | some i =>
        have SO := hiddenN (solve_odd hc hb hf a c _ HA.out.lies hroom)
        have hno : hoB n rs = false := by
          cases q : hoB n rs with
          | false => rfl
          | true => rw [(ho_steady q).2] at hf; cases hf
        rw [hno] at HO
        clear hc hb hf hno
        generalize hoE n rs = he at *
        generalize cycB n i = C at *
        go_enter Try.func6, Try.ntmps6
        go_upto_region 1 with fail
        generalize w.alloc (.cells #[.int .i64 n.nodes, .slice a n.arcs.length c] 24) = W0 at *
        go_upto_region 2 with (go_at_call 16; (with_reducible refine SO.out.mono ?_); rintro e W1 ⟨d1, c1, d2, c2, rfl, q1, b1⟩; have C1 := hiddenN (q1.mono B0.out.size); have L1 := hiddenN (B0.out.trans (b1.mono B0.out.size)); have N1 := hiddenN (X0.out.below b1); have A1 := hiddenN (HA.out.below b1); clear b1 q1)
        clear SO y0 y1
        have b2 := (Below.refl W1.heap.size W1).alloc (Nat.le_refl _) (.cells #[.int .u8 2, .slice d1 0 c1, .slice d2 C.length c2] 37)
        have X2 := hiddenN (blkA_new 37 W1 #[.int .u8 2, .slice d1 0 c1, .slice d2 C.length c2])
        have C2 := hiddenN (C1.out.later b2)
        have L2 := hiddenN (L1.out.trans (b2.mono L1.out.size))
        have N2 := hiddenN (N1.out.below b2)
        have A2 := hiddenN (A1.out.below b2)
        obtain ⟨xb, hxb⟩ : ∃ q, W1.heap.size = q := ⟨_, rfl⟩
        rw [hxb] at X2 ⊢
        clear b2 L1 N1 A1 hxb X0 B0 HA
        generalize W1.alloc (.cells #[.int .u8 2, .slice d1 0 c1, .slice d2 C.length c2] 37) = W2 at *
        have x0 := X2.out.cell (k := 0) rfl
        have x1 := X2.out.cell (k := 1) rfl
        have x2 := X2.out.cell (k := 2) rfl
        have y0 := N2.out.cell (k := 0) rfl
        have y1 := N2.out.cell (k := 1) rfl
        simp only [List.getElem_toArray, List.getElem_cons_zero, List.getElem_cons_succ] at x0 x1 x2 y0 y1
        go_wp2_with (first
          | (go_at_call 13; (with_reducible refine (AW.out _).mono ?_); rintro e W4 ⟨rfl, bw⟩; have L4 := hiddenN (L3.out.trans (bw.mono L3.out.size)); clear bw)
          | (go_at_call 11; (with_reducible refine (HO.out _ A2.out.lies (HR.out _ L2.out)).mono ?_); rintro e W3 ⟨rfl, bh⟩; have L3 := hiddenN (L2.out.trans (bh.mono L2.out.size)); have BH := hiddenN bh; have x0 := (X2.out.below bh).cell (k := 0) rfl; have x1 := (X2.out.below bh).cell (k := 1) rfl; have x2 := (X2.out.below bh).cell (k := 2) rfl; simp only [List.getElem_toArray, List.getElem_cons_zero, List.getElem_cons_succ] at x0 x1 x2; have y0 := (N2.out.below bh).cell (k := 0) rfl; have y1 := (N2.out.below bh).cell (k := 1) rfl; simp only [List.getElem_toArray, List.getElem_cons_zero, List.getElem_cons_succ] at y0 y1; clear bh))
        go_ret
        exact ⟨rfl, L4.out⟩
      | none =>
        have SO := hiddenN (solve_even hc hb hf a c _ HA.out.lies hroom)
        have hS := check_sound hc
        have hN := hS.nodes
        have hM := hS.most
        obtain ⟨l1, l2⟩ := ho_least hc hb hf
        have H2 := hiddenN (fun (U : World) (d : Option Addr) (cc : Nat) (g1 : AtN U a n.arcs) (g2 : At U d (rowF n.nodes.toNat (cnt n))) => holds_any n a c (rowF n.nodes.toNat (cnt n)) d cc U g1 hroom g2 (by rw [rowF_len]; omega))
        rw [l1, l2, rowF_len] at H2
        have hlb : ((n.nodes.toNat : Int) != n.nodes) = false := by simp; omega
        cases hg : hoB n rs with
        | false =>
          rw [hg] at HO
          clear hc hb hf l1 l2 hS hg
          generalize hoE n rs = he at *
          generalize rowF n.nodes.toNat (cnt n) = RR at *
          generalize n.nodes.toNat = N at *
          go_enter Try.func6, Try.ntmps6
          go_upto_region 1 with fail
          generalize w.alloc (.cells #[.int .i64 n.nodes, .slice a n.arcs.length c] 24) = W0 at *
          go_upto_region 2 with (go_at_call 16; (with_reducible refine SO.out.mono ?_); rintro e W1 ⟨d1, c1, d2, c2, rfl, q1, b1⟩; have R1 := hiddenN (q1.mono B0.out.size); have L1 := hiddenN (B0.out.trans (b1.mono B0.out.size)); have N1 := hiddenN (X0.out.below b1); have A1 := hiddenN (HA.out.below b1); clear b1 q1)
          clear SO y0 y1
          have b2 := (Below.refl W1.heap.size W1).alloc (Nat.le_refl _) (.cells #[.int .u8 1, .slice d1 N c1, .slice d2 0 c2] 37)
          have X2 := hiddenN (blkA_new 37 W1 #[.int .u8 1, .slice d1 N c1, .slice d2 0 c2])
          have R2 := hiddenN (R1.out.later b2)
          have L2 := hiddenN (L1.out.trans (b2.mono L1.out.size))
          have N2 := hiddenN (N1.out.below b2)
          have A2 := hiddenN (A1.out.below b2)
          obtain ⟨xb, hxb⟩ : ∃ q, W1.heap.size = q := ⟨_, rfl⟩
          rw [hxb] at X2 ⊢
          clear b2 L1 N1 A1 hxb X0 B0 HA
          generalize W1.alloc (.cells #[.int .u8 1, .slice d1 N c1, .slice d2 0 c2] 37) = W2 at *
          have x0 := X2.out.cell (k := 0) rfl
          have x1 := X2.out.cell (k := 1) rfl
          have x2 := X2.out.cell (k := 2) rfl
          have y0 := N2.out.cell (k := 0) rfl
          have y1 := N2.out.cell (k := 1) rfl
          simp only [List.getElem_toArray, List.getElem_cons_zero, List.getElem_cons_succ] at x0 x1 x2 y0 y1
          go_wp2_with (first
            | (go_at_call 13; (with_reducible refine (AW.out _).mono ?_); rintro e W5 ⟨rfl, bw⟩; have L5 := hiddenN (L4.out.trans (bw.mono L4.out.size)); clear bw)
            | (go_at_call 11; (with_reducible refine (H2.out _ d1 c1 (A2.out.lies.below BH.out) (R2.out.at.below BH.out)).mono ?_); rintro e W4 ⟨rfl, bg⟩; have L4 := hiddenN (L3.out.trans (bg.mono L3.out.size)); have BG := hiddenN (BH.out.trans (bg.mono BH.out.size)); have x0 := (X2.out.below BG.out).cell (k := 0) rfl; have x1 := (X2.out.below BG.out).cell (k := 1) rfl; have x2 := (X2.out.below BG.out).cell (k := 2) rfl; simp only [List.getElem_toArray, List.getElem_cons_zero, List.getElem_cons_succ] at x0 x1 x2; have y0 := (N2.out.below BG.out).cell (k := 0) rfl; have y1 := (N2.out.below BG.out).cell (k := 1) rfl; simp only [List.getElem_toArray, List.getElem_cons_zero, List.getElem_cons_succ] at y0 y1; clear bg)
            | (go_at_call 11; (with_reducible refine (HO.out _ A2.out.lies (HR.out _ L2.out)).mono ?_); rintro e W3 ⟨rfl, bh⟩; have L3 := hiddenN (L2.out.trans (bh.mono L2.out.size)); have BH := hiddenN bh; have x0 := (X2.out.below bh).cell (k := 0) rfl; have x1 := (X2.out.below bh).cell (k := 1) rfl; have x2 := (X2.out.below bh).cell (k := 2) rfl; simp only [List.getElem_toArray, List.getElem_cons_zero, List.getElem_cons_succ] at x0 x1 x2; have y0 := (N2.out.below bh).cell (k := 0) rfl; have y1 := (N2.out.below bh).cell (k := 1) rfl; simp only [List.getElem_toArray, List.getElem_cons_zero, List.getElem_cons_succ] at y0 y1; clear bh))
          go_ret
          exact ⟨rfl, L5.out⟩
        | true =>
          obtain ⟨q1, q2, q3, q4⟩ := ho_yes hg
          obtain ⟨-, eE⟩ := ho_fu (R := rs) q1 q2 q3
          have hl2 : rlen = n.nodes.toNat := by have := HRS.out; omega
          have hlb2 : ((rlen : Int) == n.nodes) = true := by simp; omega
          obtain ⟨q, m1, m2⟩ := ho_mult hg
          have RN : Hid (rowF n.nodes.toNat (natB rs) = rs) := by show _ = _; rw [← hl2, ← HRS.out]; exact row_nat q3
          have TI := hiddenN (fun (U : World) (d : Option Addr) (cc : Nat) (g1 : AtN U a n.arcs) (g2 : At U ra (rowF n.nodes.toNat (natB rs))) (g3 : At U d (rowF n.nodes.toNat (cnt n))) => times_yes (natB rs) (cnt n) q a ra d c rc cc U hS.souB (by omega) (by omega) m1 m2 g1 g2 g3)
          have eNN : ((n.nodes.toNat : Nat) : Int) = n.nodes := by omega
          rw [RN.out, eNN] at TI
          rw [hg, eE] at HO
          rw [← hl2] at TI H2 SO hlb
          clear hc hb hf l1 l2 hS hg q1 q2 q3 q4 eE m1 m2 RN eNN
          generalize rowF n.nodes.toNat (cnt n) = RR at *
          clear hl2
          go_enter Try.func6, Try.ntmps6
          go_upto_region 1 with fail
          generalize w.alloc (.cells #[.int .i64 n.nodes, .slice a n.arcs.length c] 24) = W0 at *
          go_upto_region 2 with (go_at_call 16; (with_reducible refine SO.out.mono ?_); rintro e W1 ⟨d1, c1, d2, c2, rfl, q1, b1⟩; have R1 := hiddenN (q1.mono B0.out.size); have L1 := hiddenN (B0.out.trans (b1.mono B0.out.size)); have N1 := hiddenN (X0.out.below b1); have A1 := hiddenN (HA.out.below b1); clear b1 q1)
          clear SO y0 y1
          have b2 := (Below.refl W1.heap.size W1).alloc (Nat.le_refl _) (.cells #[.int .u8 1, .slice d1 rlen c1, .slice d2 0 c2] 37)
          have X2 := hiddenN (blkA_new 37 W1 #[.int .u8 1, .slice d1 rlen c1, .slice d2 0 c2])
          have R2 := hiddenN (R1.out.later b2)
          have L2 := hiddenN (L1.out.trans (b2.mono L1.out.size))
          have N2 := hiddenN (N1.out.below b2)
          have A2 := hiddenN (A1.out.below b2)
          obtain ⟨xb, hxb⟩ : ∃ q, W1.heap.size = q := ⟨_, rfl⟩
          rw [hxb] at X2 ⊢
          clear b2 L1 N1 A1 hxb X0 B0 HA
          generalize W1.alloc (.cells #[.int .u8 1, .slice d1 rlen c1, .slice d2 0 c2] 37) = W2 at *
          have x0 := X2.out.cell (k := 0) rfl
          have x1 := X2.out.cell (k := 1) rfl
          have x2 := X2.out.cell (k := 2) rfl
          have y0 := N2.out.cell (k := 0) rfl
          have y1 := N2.out.cell (k := 1) rfl
          simp only [List.getElem_toArray, List.getElem_cons_zero, List.getElem_cons_succ] at x0 x1 x2 y0 y1
          go_wp2_with (first
            | (go_at_call 13; (with_reducible refine (AW.out _).mono ?_); rintro e W6 ⟨rfl, bw⟩; have L6 := hiddenN (L5.out.trans (bw.mono L5.out.size)); clear bw)
            | (go_at_call 21; (with_reducible refine (TI.out _ d1 c1 (A2.out.lies.below BG.out) (HR.out _ L4.out) (R2.out.at.below BG.out)).mono ?_); rintro e W5 ⟨rfl, bt⟩; have L5 := hiddenN (L4.out.trans (bt.mono L4.out.size)); clear bt)
            | (go_at_call 11; (with_reducible refine (H2.out _ d1 c1 (A2.out.lies.below BH.out) (R2.out.at.below BH.out)).mono ?_); rintro e W4 ⟨rfl, bg⟩; have L4 := hiddenN (L3.out.trans (bg.mono L3.out.size)); have BG := hiddenN (BH.out.trans (bg.mono BH.out.size)); have x0 := (X2.out.below BG.out).cell (k := 0) rfl; have x1 := (X2.out.below BG.out).cell (k := 1) rfl; have x2 := (X2.out.below BG.out).cell (k := 2) rfl; simp only [List.getElem_toArray, List.getElem_cons_zero, List.getElem_cons_succ] at x0 x1 x2; have y0 := (N2.out.below BG.out).cell (k := 0) rfl; have y1 := (N2.out.below BG.out).cell (k := 1) rfl; simp only [List.getElem_toArray, List.getElem_cons_zero, List.getElem_cons_succ] at y0 y1; clear bg)
            | (go_at_call 11; (with_reducible refine (HO.out _ A2.out.lies (HR.out _ L2.out)).mono ?_); rintro e W3 ⟨rfl, bh⟩; have L3 := hiddenN (L2.out.trans (bh.mono L2.out.size)); have BH := hiddenN bh; have x0 := (X2.out.below bh).cell (k := 0) rfl; have x1 := (X2.out.below bh).cell (k := 1) rfl; have x2 := (X2.out.below bh).cell (k := 2) rfl; simp only [List.getElem_toArray, List.getElem_cons_zero, List.getElem_cons_succ] at x0 x1 x2; have y0 := (N2.out.below bh).cell (k := 0) rfl; have y1 := (N2.out.below bh).cell (k := 1) rfl; simp only [List.getElem_toArray, List.getElem_cons_zero, List.getElem_cons_succ] at y0 y1; clear bh))
          go_ret
          exact ⟨rfl, L6.out⟩
  · have SO := hiddenN (solve_bad hc a c _ HA.out.lies hroom)
    obtain ⟨v1, v2⟩ := ho_bad (R := rs) hc
    rw [v1, v2] at HO
    have hcb : (checkN n != 0) = true := by simpa using hc
    have hce : (checkN n == checkN n) = true := by simp
    clear hc v1 v2
    generalize checkN n = cd at *
    go_enter Try.func6, Try.ntmps6
    go_upto_region 1 with fail
    generalize w.alloc (.cells #[.int .i64 n.nodes, .slice a n.arcs.length c] 24) = W0 at *
    go_upto_region 2 with (go_at_call 16; (with_reducible refine SO.out.mono ?_); rintro e W1 ⟨d1, c1, d2, c2, rfl, b1⟩; have L1 := hiddenN (B0.out.trans (b1.mono B0.out.size)); have N1 := hiddenN (X0.out.below b1); have A1 := hiddenN (HA.out.below b1); clear b1)
    clear SO y0 y1
    have b2 := (Below.refl W1.heap.size W1).alloc (Nat.le_refl _) (.cells #[.int .u8 0, .slice d1 0 c1, .slice d2 0 c2] 37)
    have X2 := hiddenN (blkA_new 37 W1 #[.int .u8 0, .slice d1 0 c1, .slice d2 0 c2])
    have L2 := hiddenN (L1.out.trans (b2.mono L1.out.size))
    have N2 := hiddenN (N1.out.below b2)
    have A2 := hiddenN (A1.out.below b2)
    obtain ⟨xb, hxb⟩ : ∃ q, W1.heap.size = q := ⟨_, rfl⟩
    rw [hxb] at X2 ⊢
    clear b2 L1 N1 A1 hxb X0 B0 HA
    generalize W1.alloc (.cells #[.int .u8 0, .slice d1 0 c1, .slice d2 0 c2] 37) = W2 at *
    have x0 := X2.out.cell (k := 0) rfl
    have x1 := X2.out.cell (k := 1) rfl
    have x2 := X2.out.cell (k := 2) rfl
    have y0 := N2.out.cell (k := 0) rfl
    have y1 := N2.out.cell (k := 1) rfl
    simp only [List.getElem_toArray, List.getElem_cons_zero, List.getElem_cons_succ] at x0 x1 x2 y0 y1
    go_wp2_with (first
      | (go_at_call 13; (with_reducible refine (AW.out _).mono ?_); rintro e W4 ⟨rfl, bw⟩; have L4 := hiddenN (L3.out.trans (bw.mono L3.out.size)); clear bw)
      | (go_at_call 11; (with_reducible refine (HO.out _ A2.out.lies (HR.out _ L2.out)).mono ?_); rintro e W3 ⟨rfl, bh⟩; have L3 := hiddenN (L2.out.trans (bh.mono L2.out.size)); have BH := hiddenN bh; have x0 := (X2.out.below bh).cell (k := 0) rfl; have x1 := (X2.out.below bh).cell (k := 1) rfl; have x2 := (X2.out.below bh).cell (k := 2) rfl; simp only [List.getElem_toArray, List.getElem_cons_zero, List.getElem_cons_succ] at x0 x1 x2; have y0 := (N2.out.below bh).cell (k := 0) rfl; have y1 := (N2.out.below bh).cell (k := 1) rfl; simp only [List.getElem_toArray, List.getElem_cons_zero, List.getElem_cons_succ] at y0 y1; clear bh))
    go_ret
    exact ⟨rfl, L4.out⟩
end Go.Proofs.Ytecmkienoofccaa
