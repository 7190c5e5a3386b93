/- Texts of one chain, laid one behind the other. -/
import Derived.Test.YtigodedloogbcaaPartSimulRuns28
import Derived.Test.YtigodedloogbcaaPartSimulRuns30
import Derived.Test.YtigodedloogbcaaPartSimulRuns19
import Derived.Test.YtigodedloogbcaaPartSimulRuns23
import Derived.Test.YtigodedloogbcaaPartSimulRuns9
namespace Go.Proofs.Ytigodedloogbcaa
open Go.ChangeShapes Go.WideShapes Go.ChangeAt Go.RowKit
set_option maxRecDepth 100000 in
set_option maxHeartbeats 8000000 in
theorem rwrong_any (n : NN) (a : Option Addr) (c : Nat) (R : List Int) (r : Option Addr) (rc : Nat) (P : List Int) (p : Option Addr) (pc : Nat) (w : World) (h : AtN w a n.arcs) (hl : n.arcs.length ≤ 4611686018427387904) (hr : At w r R) (hR : R.length ≤ 4611686018427387904) (hp : At w p P) (hP : P.length ≤ 4611686018427387904) :
    Calls Try.prog 13 #[.agg #[.int .i64 n.nodes, .slice a n.arcs.length c], .slice r R.length rc, .slice p P.length pc] w fun e w' => e = .returned (.int .i64 (errU n R P)) ∧ Below w.heap.size w w' := by
  obtain ⟨x, hx⟩ : ∃ x, errU n R P = x := ⟨_, rfl⟩
  rw [hx]
  have HX := hiddenN hx
  have b0 := (Below.refl w.heap.size w).alloc (Nat.le_refl _) (.cells #[.int .i64 n.nodes, .slice a n.arcs.length c] 24)
  have X0 := hiddenN (blkA_new 24 w #[.int .i64 n.nodes, .slice a n.arcs.length c])
  have B0 := hiddenN b0
  have HO := hiddenN (rholds_any n a c R r rc _ (h.below b0) hl (hr.below b0) hR)
  have HR := hiddenN (hr.below b0)
  have HP := hiddenN (hp.below b0)
  clear b0 h hr hp hx
  have y0 := X0.out.cell (k := 0) rfl
  have y1 := X0.out.cell (k := 1) rfl
  simp only [List.getElem_toArray, List.getElem_cons_zero, List.getElem_cons_succ] at y0 y1
  go_enter Try.func13, Try.ntmps13
  go_upto_region 1 with fail
  generalize (w.alloc (.cells #[.int .i64 n.nodes, .slice a n.arcs.length c] 24)) = W0 at *
  by_cases he : hoE n R = 0
  · rw [he] at HO
    cases hb : hoB n R with
    | false =>
      have hE : x = 130 := by rw [← HX.out]; unfold errU; rw [if_pos he, hb]; rfl
      subst hE
      rw [hb] at HO
      clear hb he HX
      go_wp2_with (go_at_call 29; (with_reducible refine HO.out.mono ?_); rintro e W1 ⟨rfl, b1⟩; have L1 := hiddenN (B0.out.trans (b1.mono B0.out.size)); clear b1)
      go_ret
      exact ⟨rfl, L1.out⟩
    | true =>
      have hg := good_of hb
      have hXe : Hid (x = if 2048 < sumU R then 5 else if arnU n P = true then 0 else 100) := by show _ = _; rw [← HX.out]; unfold errU; rw [if_pos he, if_pos hb]
      have HW := hiddenN hg.win
      have hRl := hg.nodes
      rw [hb] at HO
      clear hb he HX hg
      obtain ⟨len, hlen⟩ : ∃ q, R.length = q := ⟨_, rfl⟩
      have HL := hiddenN hlen
      rw [hlen] at hRl HO ⊢
      clear hlen
      go_upto_region 8 with (go_at_call 29; (with_reducible refine HO.out.mono ?_); rintro e W1 ⟨rfl, b1⟩; have L1 := hiddenN (B0.out.trans (b1.mono B0.out.size)); have R1 := hiddenN (HR.out.below b1); have P1 := hiddenN (HP.out.below b1); have N1 := hiddenN (X0.out.below b1); clear b1)
      clear HO y0 y1 B0 HR HP X0
      go_loopg [9, 10] len (fun gk u9 u10 wr => ∃ (k : Nat) (z : Int), k ≤ len ∧ gk = len - k ∧ u10 = .int .i64 (k : Int) ∧ u9 = .int .i64 z ∧ z = sumU (R.take k) ∧ 0 ≤ z ∧ z ≤ 4096 * (k : Int) ∧ W1 = wr)
      case atStart => exact ⟨0, 0, Nat.zero_le _, rfl, rfl, rfl, rfl, by omega, by omega, rfl⟩
      case round =>
        obtain ⟨k, z, hk, rfl, rfl, rfl, hz, hz0, hz1, rfl⟩ := hrel
        have HZ := hiddenN hz
        clear hz
        by_cases hlt : k < len
        · have hkR : k < R.length := by rw [HL.out]; exact hlt
          have hkI : (k : Int) < (len : Int) := by omega
          rcases R1.out with e | ⟨rb, ro, rfl, hcr⟩
          · rw [e] at hkR; exact absurd hkR (Nat.not_lt_zero _)
          have c0 := hcr k hkR
          have hw := HW.out k hkR
          have HS := hiddenN (sum_take hkR)
          clear hcr
          generalize nth R k = r at *
          have hwr : IntKind.i64.wrap (z + r) = z + r := by rw [IntKind.wrap_i64]; omega
          go_wp2
          go_roundg (len - (k + 1))
          case measure => omega
          case rel => exact ⟨k + 1, z + r, by omega, rfl, by go_num, by first | rfl | rw [hwr], by rw [HS.out, HZ.out], by omega, by push_cast; omega, rfl⟩
        · have ek : k = len := by omega
          subst ek
          have hze : z = sumU R := by rw [HZ.out, List.take_of_length_le (by rw [HL.out]; exact Nat.le_refl _)]
          have hx1 := hXe.out
          rw [← hze] at hx1
          clear hXe HZ hze
          by_cases hs : 2048 < z
          · rw [if_pos hs] at hx1
            subst hx1
            have hgt : z > 2048 := hs
            go_wp2
            go_ret
            exact ⟨rfl, L1.out⟩
          · rw [if_neg hs] at hx1
            have HX := hiddenN hx1
            have hgt : ¬ z > 2048 := hs
            clear hx1
            obtain ⟨lp, hlp⟩ : ∃ q, P.length = q := ⟨_, rfl⟩
            have HLP := hiddenN hlp
            rw [hlp] at hP ⊢
            clear hlp
            go_upto_region 14 with fail
            go_loopg [11] lp (fun gk u wr => ∃ (i : Nat), i ≤ lp ∧ gk = lp - i ∧ u = .int .i64 (i : Int) ∧ arnU n (P.drop i) = arnU n P ∧ Below W1.heap.size W1 wr)
            case atStart => exact ⟨0, Nat.zero_le _, rfl, rfl, rfl, Below.refl _ _⟩
            case round =>
              obtain ⟨i, hi, rfl, rfl, hs2, hbw⟩ := hrel
              have HS := hiddenN hs2
              have BW := hiddenN hbw
              have LW := hiddenN (L1.out.trans (hbw.mono L1.out.size))
              clear hs2 hbw
              by_cases hlt : i < lp
              · have hiP : i < P.length := by rw [HLP.out]; exact hlt
                have hiI : (i : Int) < (lp : Int) := by omega
                rcases P1.out.below BW.out with e | ⟨pb, po, rfl, hcp⟩
                · rw [e] at hiP; exact absurd hiP (Nat.not_lt_zero _)
                have c0 := hcp i hiP
                have y0 := (N1.out.below BW.out).cell (k := 0) rfl
                simp only [List.getElem_toArray, List.getElem_cons_zero] at y0
                have HD : Hid (P.drop i = nth P i :: P.drop (i + 1)) := drop_nth P i hiP
                clear hcp
                generalize nth P i = v at *
                go_upto_region 16 with fail
                by_cases q1 : v < 0
                · have HF : Hid (arnU n P = false) := by show _ = _; rw [← HS.out, HD.out, arnU, show nodeB n v = false from decide_eq_false (by omega)]; rfl
                  have hx2 := HX.out
                  rw [HF.out, if_neg (by decide)] at hx2
                  subst hx2
                  go_quiet (fail)
                  have b9 := drewB (Below.refl wr.heap.size wr) nq
                  have L9 := hiddenN (LW.out.trans (b9.mono LW.out.size))
                  clear b9
                  go_wp2
                  go_ret
                  exact ⟨rfl, L9.out⟩
                · by_cases q2 : n.nodes ≤ v
                  · have HF : Hid (arnU n P = false) := by show _ = _; rw [← HS.out, HD.out, arnU, show nodeB n v = false from decide_eq_false (by omega)]; rfl
                    have hx2 := HX.out
                    rw [HF.out, if_neg (by decide)] at hx2
                    subst hx2
                    have hge : v ≥ n.nodes := q2
                    go_quiet (fail)
                    have b9 := drewB (Below.refl wr.heap.size wr) nq
                    have L9 := hiddenN (LW.out.trans (b9.mono LW.out.size))
                    clear b9
                    go_wp2
                    go_ret
                    exact ⟨rfl, L9.out⟩
                  · have HN2 : Hid (arnU n (P.drop (i + 1)) = arnU n P) := by show _ = _; rw [← HS.out, HD.out, arnU, show nodeB n v = true from decide_eq_true (by omega), Bool.true_and]
                    have hge : ¬ v ≥ n.nodes := q2
                    go_quiet (fail)
                    have b9 := drewB (Below.refl wr.heap.size wr) nq
                    have B9 := hiddenN (BW.out.trans (b9.mono BW.out.size))
                    clear b9
                    go_wp2
                    go_roundg (lp - (i + 1))
                    case measure => omega
                    case rel => exact ⟨i + 1, by omega, rfl, by go_num, HN2.out, B9.out⟩
              · have ek : i = lp := by omega
                subst ek
                have HF : Hid (arnU n P = true) := by show _ = _; rw [← HS.out, List.drop_eq_nil_of_le (by rw [HLP.out]; exact Nat.le_refl _)]; rfl
                have hx2 := HX.out
                rw [HF.out, if_pos rfl] at hx2
                subst hx2
                go_wp2
                go_ret
                exact ⟨rfl, LW.out⟩
  · have hE : x = hoE n R := by rw [← HX.out]; exact check_not he
    have hne : (hoE n R != 0) = true := by simpa using he
    generalize hoE n R = er at *
    generalize hoB n R = bo at *
    have HE := hiddenN hE
    clear he HX hE
    go_wp2_with (go_at_call 29; (with_reducible refine HO.out.mono ?_); rintro e W1 ⟨rfl, b1⟩; have L1 := hiddenN (B0.out.trans (b1.mono B0.out.size)); clear b1)
    go_ret
    exact ⟨by rw [HE.out]; rfl, L1.out⟩
/-- The document's order: what is preferred, then all nodes, falling. -/
def ordU (N : Nat) (P : List Int) : List Int := P ++ fallU N
set_option maxRecDepth 100000 in
set_option maxHeartbeats 4000000 in
theorem rorder_any (n : NN) (N : Nat) (hN : n.nodes = (N : Int)) (h32 : N ≤ 32) (na : Option Addr) (nc : Nat) (P : List Int) (p : Option Addr) (pc : Nat) (w : World) (hp : At w p P) (hpn : p = none → P.length = 0 ∧ pc = 0) (hP : P.length ≤ 32) :
    Calls Try.prog 14 #[.agg #[.int .i64 n.nodes, .slice na n.arcs.length nc], .slice p P.length pc] w fun e w' => ∃ d c, e = .returned (.slice d (ordU N P).length c) ∧ CapR w.heap.size w' d c (ordU N P) ∧ Below w.heap.size w w' := by
  obtain ⟨RE, hRE⟩ : ∃ Q, (fun (e : Ending) (w' : World) => ∃ d c, e = .returned (.slice d (ordU N P).length c) ∧ CapR w.heap.size w' d c (ordU N P) ∧ Below w.heap.size w w') = Q := ⟨_, rfl⟩
  rw [hRE]
  have HRE := hiddenN hRE
  have b0 := (Below.refl w.heap.size w).alloc (Nat.le_refl _) (.cells #[.int .i64 n.nodes, .slice na n.arcs.length nc] 24)
  have X0 := hiddenN (blkA_new 24 w #[.int .i64 n.nodes, .slice na n.arcs.length nc])
  have B0 := hiddenN b0
  have HP := hiddenN (hp.below b0)
  have HNN := hiddenN hN
  clear b0 hp hRE hN
  go_enter Try.func14, Try.ntmps14
  go_upto_region 1 with fail
  generalize w.alloc (.cells #[.int .i64 n.nodes, .slice na n.arcs.length nc] 24) = W0 at *
  obtain ⟨Q, hQ⟩ : ∃ q, W0.heap.size = q := ⟨_, rfl⟩
  have HQ := hiddenN hQ
  have hxQ : w.heap.size < Q := by rw [← hQ]; exact X0.out.lt
  have hQ0 : Q ≤ W0.heap.size := by omega
  clear hQ
  go_upto_region 3 with (at_builtin; refine wpList_appI rfl _ _ rfl Q none 0 [] rfl (CapR.nil _ _) p pc P rfl hpn HP.out (by show (0 + P.length) * 8 ≤ _; omega) hQ0 P.length P (by show 0 + P.length = P.length; omega) rfl ?_; intro d1 c1 W1 hd1 b1; have C1 := hiddenN hd1; have B1 := hiddenN b1; clear hd1 b1)
  have X1 := hiddenN (X0.out.keep (B1.out.block _ hxQ))
  have y0 := X1.out.cell (k := 0) rfl
  simp only [List.getElem_toArray, List.getElem_cons_zero] at y0
  rw [HNN.out] at y0
  go_upto_region 4 with fail
  go_loopg [5, 6] N (fun gk u5 u6 wr => ∃ (q c : Nat) (d : Option Addr) (L : List Int) (z : Int), q ≤ N ∧ gk = q ∧ z = (q : Int) - 1 ∧ u6 = .int .i64 z ∧ fallU N = L ++ fallU q ∧ L.length ≤ N ∧ u5 = .slice d (P ++ L).length c ∧ CapR Q wr d c (P ++ L) ∧ Below Q W0 wr)
  case atStart => exact ⟨N, c1, d1, [], (N : Int) - 1, Nat.le_refl _, rfl, rfl, by first | rfl | go_num, rfl, by simp, by simp, by rw [List.append_nil]; exact C1.out, B1.out⟩
  case round =>
    clear C1 B1 y0 X1
    obtain ⟨q, c, d, L, z, hq, rfl, hz, rfl, hf, hLl, rfl, hc, hb⟩ := hrel
    have C1 := hiddenN hc
    have B1 := hiddenN hb
    have HF := hiddenN hf
    clear hc hb hf
    cases gk with
    | zero =>
      have hz' : z = -1 := by omega
      subst hz'
      clear hz
      have HL : Hid (P ++ L = ordU N P) := by show _ = _; unfold ordU; rw [HF.out]; show P ++ L = P ++ (L ++ []); rw [List.append_nil]
      rw [HL.out] at C1 ⊢
      have hQw : w.heap.size ≤ Q := by omega
      go_wp2
      rw [← HRE.out]
      exact ⟨d, c, rfl, C1.out.mono hQw, B0.out.trans (B1.out.mono hQw)⟩
    | succ k =>
      have hz' : z = (k : Int) := by omega
      subst hz'
      clear hz
      have hge : (k : Int) ≥ 0 := by omega
      have hL2 : L.length + 1 ≤ N := by
        have := congrArg List.length HF.out
        have hl : ∀ m, (fallU m).length = m := fun m => by
          induction m with
          | zero => rfl
          | succ m ih => show (fallU m).length + 1 = m + 1; rw [ih]
        rw [List.length_append, hl, hl] at this
        omega
      have ba := (Below.refl wr.heap.size wr).alloc (Nat.le_refl _) (.cells #[.int .i64 (k : Int)] 3)
      have hQr : Q ≤ wr.heap.size := Nat.le_trans hQ0 B1.out.size
      have AX := hiddenN (at_alloc1 wr (k : Int))
      have CX := hiddenN (C1.out.later ba)
      have BX := hiddenN (B1.out.trans (ba.mono hQr))
      have hQx : Q ≤ (wr.alloc (.cells #[.int .i64 (k : Int)] 3)).heap.size := Nat.le_trans hQr ba.size
      have hPL : (P ++ L).length ≤ 64 := by rw [List.length_append]; omega
      have HAP : Hid (P ++ L ++ [(k : Int)] = P ++ (L ++ [(k : Int)])) := by show _ = _; rw [List.append_assoc]
      clear ba
      generalize P ++ L = M at *
      go_wp2_with (at_builtin; refine wpList_appI rfl _ _ rfl Q d c M rfl CX.out (some ⟨wr.heap.size, 0, none⟩) 1 [(k : Int)] rfl (fun e => by cases e) AX.out (by simp; omega) hQx (M.length + 1) (M ++ [(k : Int)]) rfl rfl ?_; intro d3 c3 W3 hd3 b3; have C3 := hiddenN hd3; have B3 := hiddenN (BX.out.trans b3); clear hd3 b3)
      go_roundg k
      case measure => omega
      case rel => exact ⟨k, c3, d3, L ++ [(k : Int)], (k : Int) - 1, by omega, rfl, rfl, by first | rfl | go_num, by rw [HF.out, List.append_assoc]; rfl, by rw [List.length_append]; exact hL2, by rw [← HAP.out, List.length_append]; rfl, by rw [← HAP.out]; exact C3.out, B3.out⟩
set_option maxRecDepth 100000 in
set_option maxHeartbeats 8000000 in
theorem rnext15_any {B : Nat} (w : World) (n : NN) (a : Option Addr) (c g N : Nat) (T F R O : List Int) (r o : Option Addr) (rc oc : Nat) (h : DocS B w n a g N F) (hI : InvN n T F) (hR : R.length = N) (hr : At w r R) (ho : At w o O) (hol : O.length ≤ 64) (hon : ∀ v ∈ O, nodeB n v = true) :
    Calls Try.prog 16 #[.agg #[.int .i64 n.nodes, .slice a n.arcs.length c, .slice (some ⟨g, 0, none⟩) N N], .slice r N rc, .slice o O.length oc] w fun e w' => e = .returned (.int .i64 (nxI (nexU n R O T F))) ∧ Below w.heap.size w w' := by
  obtain ⟨q, hq⟩ : ∃ q, nexU n R O T F = q := ⟨_, rfl⟩
  rw [hq]
  have HQ := hiddenN hq
  have b0 := (Below.refl w.heap.size w).alloc (Nat.le_refl _) (.cells #[.int .i64 n.nodes, .slice a n.arcs.length c, .slice (some ⟨g, 0, none⟩) N N] 50)
  have X0 := hiddenN (blkA_new 50 w #[.int .i64 n.nodes, .slice a n.arcs.length c, .slice (some ⟨g, 0, none⟩) N N])
  have B0 := hiddenN b0
  have HD := hiddenN (h.below b0)
  have HRr := hiddenN (hr.below b0)
  have HOo := hiddenN (ho.below b0)
  have HRl := hiddenN hR
  have hnn := nodes_nat h.sound
  have hN := h.nodes
  have hN1 : 1 ≤ N ∧ N ≤ 32 := by omega
  have HNN := hiddenN hN
  have HON := hiddenN hon
  obtain ⟨M, hM⟩ : ∃ q, O.length = q := ⟨_, rfl⟩
  have HM := hiddenN hM
  rw [hM] at hol ⊢
  clear b0 h hr ho hR hq hon hM hnn hN
  go_enter Try.func16, Try.ntmps16
  go_upto_region 1 with fail
  generalize w.alloc (.cells #[.int .i64 n.nodes, .slice a n.arcs.length c, .slice (some ⟨g, 0, none⟩) N N] 50) = W0 at *
  obtain ⟨xb, hxb⟩ : ∃ q, w.heap.size = q := ⟨_, rfl⟩
  rw [hxb] at X0 ⊢
  have HXB := hiddenN hxb
  clear hxb
  go_upto_region 2 with fail
  go_loopg [7] M (fun gk u wr => ∃ k : Nat, k ≤ M ∧ gk = M - k ∧ u = .int .i64 (k : Int) ∧ Below W0.heap.size W0 wr ∧ (O.drop k).find? (goU n R T F) = q)
  case atStart => exact ⟨0, Nat.zero_le _, rfl, rfl, Below.refl _ _, HQ.out⟩
  case round =>
    obtain ⟨k, hk, rfl, rfl, hbw, hs⟩ := hrel
    have BW := hiddenN hbw
    have HS := hiddenN hs
    have LW := hiddenN (B0.out.trans (hbw.mono B0.out.size))
    clear hbw hs
    by_cases hlt : k < M
    · have hkM : k < M := hlt
      have hkI : (k : Int) < (M : Int) := by omega
      have hkO : k < O.length := by rw [HM.out]; exact hlt
      rcases HOo.out.below BW.out with e | ⟨ob, oo, rfl, hco⟩
      · rw [e] at hkO; exact absurd hkO (Nat.not_lt_zero _)
      have c0 := hco k hkO
      have hnb := HON.out _ (nth_memU hkO)
      have hn := node_in hnb
      have HDr : Hid (O.drop k = nth O k :: O.drop (k + 1)) := drop_nth O k hkO
      obtain ⟨vn, hvn⟩ : ∃ m : Nat, nth O k = (m : Int) := ⟨(nth O k).toNat, by omega⟩
      rw [hvn] at c0 HDr hnb hn
      have hvN : vn < N := by have := HNN.out; omega
      have hvI : (vn : Int) < (N : Int) := by omega
      have DW := hiddenN (HD.out.below BW.out)
      have c1 := DW.out.cell hvN
      have hvR : vn < R.length := by rw [HRl.out]; exact hvN
      rcases HRr.out.below BW.out with e | ⟨rb, ro, rfl, hcr⟩
      · rw [e] at hvR; exact absurd hvR (Nat.not_lt_zero _)
      have c2 := hcr vn hvR
      have y0 := (X0.out.below BW.out).cell (k := 0) rfl
      have y1 := (X0.out.below BW.out).cell (k := 1) rfl
      have y2 := (X0.out.below BW.out).cell (k := 2) rfl
      simp only [List.getElem_toArray, List.getElem_cons_zero, List.getElem_cons_succ] at y0 y1 y2
      have HG : Hid (goU n R T F (vn : Int) = (decide (nth F vn < nth R vn) && mayN n T (vn : Int))) := by show _ = _; unfold goU lefU; rw [Int.toNat_natCast]
      clear hco hcr hvn hn
      by_cases hxy : nth F vn < nth R vn
      · have MY := hiddenN (fun (W : World) (hW : Below wr.heap.size wr W) => rmay10_any W n a c g N T F (DW.out.below hW) hI (vn : Int))
        obtain ⟨my, hmy⟩ : ∃ b, mayN n T (vn : Int) = b := ⟨_, rfl⟩
        rw [hmy] at MY HG
        rw [decide_eq_true hxy, Bool.true_and] at HG
        generalize nth F vn = x at *
        generalize nth R vn = y at *
        go_upto_region 4 with fail
        refine wp_region_gen [] (fun d i u z => match i with
            | 0 => z = .pointer (some ⟨xb, 2, none⟩)
            | 1 => z = .slice (some ⟨g, 0, none⟩) N N
            | 2 => z = .slice (some ⟨ob, oo, none⟩) M oc
            | 3 => z = .int .i64 (k : Int)
            | 4 => z = .pointer (some ⟨ob, oo + k, none⟩)
            | 5 => z = .int .i64 (vn : Int)
            | 6 => z = .pointer (some ⟨g, vn, none⟩)
            | 7 => z = .int .i64 x
            | 8 => z = .slice (some ⟨rb, ro, none⟩) N rc
            | 9 => z = .slice (some ⟨ob, oo, none⟩) M oc
            | 10 => z = .int .i64 (k : Int)
            | 11 => z = .pointer (some ⟨ob, oo + k, none⟩)
            | 12 => z = .int .i64 (vn : Int)
            | 13 => z = .pointer (some ⟨rb, ro + vn, none⟩)
            | 14 => z = .int .i64 y
            | 15 => z = .bool true
            | 16 => z = .bool true
            | 17 => z = .agg #[.int .i64 n.nodes, .slice a n.arcs.length c, .slice (some ⟨g, 0, none⟩) N N]
            | 18 => z = .slice (some ⟨ob, oo, none⟩) M oc
            | 19 => z = .int .i64 (k : Int)
            | 20 => z = .pointer (some ⟨ob, oo + k, none⟩)
            | 21 => z = .int .i64 (vn : Int)
            | 22 => z = .bool my
            | 23 => z = .bool my
            | _ => True) (fun d u => Below wr.heap.size wr u) (by kernel_rfl) (by kernel_rfl) (by kernel_rfl) ?_ ?_ ?_ ?_ ?_ ?_ (by kernel_rfl)
        · intro d i w v w' h hb
          match i, h with
          | 0, h => exact h
          | 1, h => exact h
          | 2, h => exact h
          | 3, h => exact h
          | 4, h => exact h
          | 5, h => exact h
          | 6, h => exact h
          | 7, h => exact h
          | 8, h => exact h
          | 9, h => exact h
          | 10, h => exact h
          | 11, h => exact h
          | 12, h => exact h
          | 13, h => exact h
          | 14, h => exact h
          | 15, h => exact h
          | 16, h => exact h
          | 17, h => exact h
          | 18, h => exact h
          | 19, h => exact h
          | 20, h => exact h
          | 21, h => exact h
          | 22, h => exact h
          | 23, h => exact h
          | _ + 24, _ => trivial
        · intro d u u' h hb
          exact h.trans (hb.mono h.size)
        · exact Below.refl _ _
        · intro d i o ρ w' hm ho hf hg hC hcs hfs hfr hdep
          match i, hm, ho, hf, hg, hfr, hdep with
          | 0, _, ho, hf, hg, hfr, hdep =>
            simp only [gTA, gCZ, gSI] at ho
            subst ho
            refine ⟨fun _ => ?_, fun hw => absurd (show true = false from hw) (by decide)⟩
            have ts : ρ (.tmp 3) = .pointer (some ⟨xb, 0, none⟩) := hfr 3 (by kernel_rfl)
            simp [go_sem, ts]
            exact ⟨Below.refl _ _, rfl⟩
          | 1, _, ho, hf, hg, hfr, hdep =>
            simp only [gTA, gCZ, gCS, gSI] at ho
            subst ho
            refine ⟨fun _ => ?_, fun hw => absurd (show true = false from hw) (by decide)⟩
            have cc := cellN_later hC y2
            have d0 : ρ (.tmp 14) = .pointer (some ⟨xb, 2, none⟩) := hdep 0 14 (by kernel_rfl) (by kernel_rfl)
            simp [go_sem, d0, cc]
            exact ⟨Below.refl _ _, rfl⟩
          | 2, _, ho, hf, hg, hfr, hdep =>
            simp only [gTA, gCZ, gCS, gSI] at ho
            subst ho
            refine ⟨fun _ => ?_, fun hw => absurd (show true = false from hw) (by decide)⟩
            have ts : ρ (.tmp 2) = .slice (some ⟨ob, oo, none⟩) M oc := hfr 2 (by kernel_rfl)
            simp [go_sem, ts]
            exact ⟨Below.refl _ _, rfl⟩
          | 3, _, ho, hf, hg, hfr, hdep =>
            simp only [gTA, gCZ, gCS, gSI] at ho
            subst ho
            refine ⟨fun _ => ?_, fun hw => absurd (show true = false from hw) (by decide)⟩
            have ts : ρ (.tmp 7) = .int .i64 (k : Int) := hfr 7 (by kernel_rfl)
            simp [go_sem, ts]
            exact ⟨Below.refl _ _, rfl⟩
          | 4, _, ho, hf, hg, hfr, hdep =>
            simp only [gTA, gCZ, gCS, gSI] at ho
            subst ho
            refine ⟨fun _ => ?_, fun hw => absurd (show true = false from hw) (by decide)⟩
            have d0 : ρ (.tmp 16) = .slice (some ⟨ob, oo, none⟩) M oc := hdep 2 16 (by kernel_rfl) (by kernel_rfl)
            have d1 : ρ (.tmp 17) = .int .i64 (k : Int) := hdep 3 17 (by kernel_rfl) (by kernel_rfl)
            simp [go_sem, d0, d1, hkM]
            exact ⟨Below.refl _ _, rfl⟩
          | 5, _, ho, hf, hg, hfr, hdep =>
            simp only [gTA, gCZ, gCS, gSI] at ho
            subst ho
            refine ⟨fun _ => ?_, fun hw => absurd (show true = false from hw) (by decide)⟩
            have cc := cellN_later hC c0
            have d0 : ρ (.tmp 18) = .pointer (some ⟨ob, oo + k, none⟩) := hdep 4 18 (by kernel_rfl) (by kernel_rfl)
            simp [go_sem, d0, cc]
            exact ⟨Below.refl _ _, rfl⟩
          | 6, _, ho, hf, hg, hfr, hdep =>
            simp only [gTA, gCZ, gCS, gSI] at ho
            subst ho
            refine ⟨fun _ => ?_, fun hw => absurd (show true = false from hw) (by decide)⟩
            have d0 : ρ (.tmp 15) = .slice (some ⟨g, 0, none⟩) N N := hdep 1 15 (by kernel_rfl) (by kernel_rfl)
            have d1 : ρ (.tmp 19) = .int .i64 (vn : Int) := hdep 5 19 (by kernel_rfl) (by kernel_rfl)
            simp [go_sem, d0, d1, hvN]
            exact ⟨Below.refl _ _, rfl⟩
          | 7, _, ho, hf, hg, hfr, hdep =>
            simp only [gTA, gCZ, gCS, gSI] at ho
            subst ho
            refine ⟨fun _ => ?_, fun hw => absurd (show true = false from hw) (by decide)⟩
            have cc := cellN_later hC c1
            have d0 : ρ (.tmp 20) = .pointer (some ⟨g, vn, none⟩) := hdep 6 20 (by kernel_rfl) (by kernel_rfl)
            simp [go_sem, d0, cc]
            exact ⟨Below.refl _ _, rfl⟩
          | 8, _, ho, hf, hg, hfr, hdep =>
            simp only [gTA, gCZ, gCS, gSI] at ho
            subst ho
            refine ⟨fun _ => ?_, fun hw => absurd (show true = false from hw) (by decide)⟩
            have ts : ρ (.tmp 1) = .slice (some ⟨rb, ro, none⟩) N rc := hfr 1 (by kernel_rfl)
            simp [go_sem, ts]
            exact ⟨Below.refl _ _, rfl⟩
          | 9, _, ho, hf, hg, hfr, hdep =>
            simp only [gTA, gCZ, gCS, gSI] at ho
            subst ho
            refine ⟨fun _ => ?_, fun hw => absurd (show true = false from hw) (by decide)⟩
            have ts : ρ (.tmp 2) = .slice (some ⟨ob, oo, none⟩) M oc := hfr 2 (by kernel_rfl)
            simp [go_sem, ts]
            exact ⟨Below.refl _ _, rfl⟩
          | 10, _, ho, hf, hg, hfr, hdep =>
            simp only [gTA, gCZ, gCS, gSI] at ho
            subst ho
            refine ⟨fun _ => ?_, fun hw => absurd (show true = false from hw) (by decide)⟩
            have ts : ρ (.tmp 7) = .int .i64 (k : Int) := hfr 7 (by kernel_rfl)
            simp [go_sem, ts]
            exact ⟨Below.refl _ _, rfl⟩
          | 11, _, ho, hf, hg, hfr, hdep =>
            simp only [gTA, gCZ, gCS, gSI] at ho
            subst ho
            refine ⟨fun _ => ?_, fun hw => absurd (show true = false from hw) (by decide)⟩
            have d0 : ρ (.tmp 23) = .slice (some ⟨ob, oo, none⟩) M oc := hdep 9 23 (by kernel_rfl) (by kernel_rfl)
            have d1 : ρ (.tmp 24) = .int .i64 (k : Int) := hdep 10 24 (by kernel_rfl) (by kernel_rfl)
            simp [go_sem, d0, d1, hkM]
            exact ⟨Below.refl _ _, rfl⟩
          | 12, _, ho, hf, hg, hfr, hdep =>
            simp only [gTA, gCZ, gCS, gSI] at ho
            subst ho
            refine ⟨fun _ => ?_, fun hw => absurd (show true = false from hw) (by decide)⟩
            have cc := cellN_later hC c0
            have d0 : ρ (.tmp 25) = .pointer (some ⟨ob, oo + k, none⟩) := hdep 11 25 (by kernel_rfl) (by kernel_rfl)
            simp [go_sem, d0, cc]
            exact ⟨Below.refl _ _, rfl⟩
          | 13, _, ho, hf, hg, hfr, hdep =>
            simp only [gTA, gCZ, gCS, gSI] at ho
            subst ho
            refine ⟨fun _ => ?_, fun hw => absurd (show true = false from hw) (by decide)⟩
            have d0 : ρ (.tmp 22) = .slice (some ⟨rb, ro, none⟩) N rc := hdep 8 22 (by kernel_rfl) (by kernel_rfl)
            have d1 : ρ (.tmp 26) = .int .i64 (vn : Int) := hdep 12 26 (by kernel_rfl) (by kernel_rfl)
            simp [go_sem, d0, d1, hvN]
            exact ⟨Below.refl _ _, rfl⟩
          | 14, _, ho, hf, hg, hfr, hdep =>
            simp only [gTA, gCZ, gCS, gSI] at ho
            subst ho
            refine ⟨fun _ => ?_, fun hw => absurd (show true = false from hw) (by decide)⟩
            have cc := cellN_later hC c2
            have d0 : ρ (.tmp 27) = .pointer (some ⟨rb, ro + vn, none⟩) := hdep 13 27 (by kernel_rfl) (by kernel_rfl)
            simp [go_sem, d0, cc]
            exact ⟨Below.refl _ _, rfl⟩
          | 15, _, ho, hf, hg, hfr, hdep =>
            simp only [gTA, gCZ, gCS, gSI] at ho
            subst ho
            refine ⟨fun _ => ?_, fun hw => absurd (show true = false from hw) (by decide)⟩
            have d0 : ρ (.tmp 21) = .int .i64 x := hdep 7 21 (by kernel_rfl) (by kernel_rfl)
            have d1 : ρ (.tmp 28) = .int .i64 y := hdep 14 28 (by kernel_rfl) (by kernel_rfl)
            simp [go_sem, d0, d1, hxy]
            exact ⟨Below.refl _ _, rfl⟩
          | 16, _, ho, hf, hg, hfr, hdep =>
            simp only [gTA, gCZ, gCS, gSI] at ho
            subst ho
            refine ⟨fun _ => ?_, fun hw => absurd (show true = false from hw) (by decide)⟩
            have d0 : ρ (.tmp 29) = .bool true := hdep 15 29 (by kernel_rfl) (by kernel_rfl)
            simp [go_sem, d0]
            exact ⟨Below.refl _ _, rfl⟩
          | 17, _, ho, hf, hg, hfr, hdep =>
            simp only [gTA, gCZ, gCS, gSI] at ho
            subst ho
            have gd : ρ (.tmp 30) = .bool true := hdep 16 30 (by kernel_rfl) (by kernel_rfl)
            refine ⟨fun _ => ?_, fun hw => absurd (show (match ρ (.tmp 30) with | .bool c => c == true | _ => false) = false from hw) (by rw [gd]; decide)⟩
            clear gd
            have ts : ρ (.tmp 3) = .pointer (some ⟨xb, 0, none⟩) := hfr 3 (by kernel_rfl)
            have k0 := cellN_later hC y0
            have k1 := cellN_later hC y1
            have k2 := cellN_later hC y2
            simp [go_sem, ts, k0, k1, k2]
            exact ⟨Below.refl _ _, rfl⟩
          | 18, _, ho, hf, hg, hfr, hdep =>
            simp only [gTA, gCZ, gCS, gSI] at ho
            subst ho
            have gd : ρ (.tmp 30) = .bool true := hdep 16 30 (by kernel_rfl) (by kernel_rfl)
            refine ⟨fun _ => ?_, fun hw => absurd (show (match ρ (.tmp 30) with | .bool c => c == true | _ => false) = false from hw) (by rw [gd]; decide)⟩
            clear gd
            have ts : ρ (.tmp 2) = .slice (some ⟨ob, oo, none⟩) M oc := hfr 2 (by kernel_rfl)
            simp [go_sem, ts]
            exact ⟨Below.refl _ _, rfl⟩
          | 19, _, ho, hf, hg, hfr, hdep =>
            simp only [gTA, gCZ, gCS, gSI] at ho
            subst ho
            have gd : ρ (.tmp 30) = .bool true := hdep 16 30 (by kernel_rfl) (by kernel_rfl)
            refine ⟨fun _ => ?_, fun hw => absurd (show (match ρ (.tmp 30) with | .bool c => c == true | _ => false) = false from hw) (by rw [gd]; decide)⟩
            clear gd
            have ts : ρ (.tmp 7) = .int .i64 (k : Int) := hfr 7 (by kernel_rfl)
            simp [go_sem, ts]
            exact ⟨Below.refl _ _, rfl⟩
          | 20, _, ho, hf, hg, hfr, hdep =>
            simp only [gTA, gCZ, gCS, gSI] at ho
            subst ho
            have gd : ρ (.tmp 30) = .bool true := hdep 16 30 (by kernel_rfl) (by kernel_rfl)
            refine ⟨fun _ => ?_, fun hw => absurd (show (match ρ (.tmp 30) with | .bool c => c == true | _ => false) = false from hw) (by rw [gd]; decide)⟩
            clear gd
            have d0 : ρ (.tmp 32) = .slice (some ⟨ob, oo, none⟩) M oc := hdep 18 32 (by kernel_rfl) (by kernel_rfl)
            have d1 : ρ (.tmp 33) = .int .i64 (k : Int) := hdep 19 33 (by kernel_rfl) (by kernel_rfl)
            simp [go_sem, d0, d1, hkM]
            exact ⟨Below.refl _ _, rfl⟩
          | 21, _, ho, hf, hg, hfr, hdep =>
            simp only [gTA, gCZ, gCS, gSI] at ho
            subst ho
            have gd : ρ (.tmp 30) = .bool true := hdep 16 30 (by kernel_rfl) (by kernel_rfl)
            refine ⟨fun _ => ?_, fun hw => absurd (show (match ρ (.tmp 30) with | .bool c => c == true | _ => false) = false from hw) (by rw [gd]; decide)⟩
            clear gd
            have cc := cellN_later hC c0
            have d0 : ρ (.tmp 34) = .pointer (some ⟨ob, oo + k, none⟩) := hdep 20 34 (by kernel_rfl) (by kernel_rfl)
            simp [go_sem, d0, cc]
            exact ⟨Below.refl _ _, rfl⟩
          | 22, _, ho, hf, hg, hfr, hdep =>
            simp only [gTA, gCZ, gCS, gSI] at ho
            subst ho
            have gd : ρ (.tmp 30) = .bool true := hdep 16 30 (by kernel_rfl) (by kernel_rfl)
            refine ⟨fun _ => ?_, fun hw => absurd (show (match ρ (.tmp 30) with | .bool c => c == true | _ => false) = false from hw) (by rw [gd]; decide)⟩
            clear gd
            have t0 : ρ (.tmp 31) = .agg #[.int .i64 n.nodes, .slice a n.arcs.length c, .slice (some ⟨g, 0, none⟩) N N] := hdep 17 31 (by kernel_rfl) (by kernel_rfl)
            have t1 : ρ (.tmp 35) = .int .i64 (vn : Int) := hdep 21 35 (by kernel_rfl) (by kernel_rfl)
            simp [go_sem, t0, t1, hfs]
            exact ⟨rfl, (MY.out w' hC).mono fun e w'' hh => ⟨_, hh.1, hh.2, rfl⟩⟩
          | 23, _, ho, hf, hg, hfr, hdep =>
            simp only [gTA, gCZ, gCS, gSI] at ho
            subst ho
            refine ⟨fun _ => ?_, fun hw => absurd (show true = false from hw) (by decide)⟩
            have d0 : ρ (.tmp 30) = .bool true := hdep 16 30 (by kernel_rfl) (by kernel_rfl)
            have d1 : ρ (.tmp 36) = .bool my := hdep 22 36 (by kernel_rfl) (by kernel_rfl)
            simp [go_sem, d0, d1]
            exact ⟨Below.refl _ _, rfl⟩
          | n + 24, _, ho, _, _, _, _ => simp at ho
        · intro d i o ρ w' hm ho h0 hf hg hC hcs hfs hfr hdep
          exact absurd hm (by simp)
        · intro V w9 hC9 hS
          have e23 : V 23 = .bool my := hS 23 (by decide) (by intro h; cases h)
          simp only [puts, e23]
          simp only [Act.put, List.setIfInBounds_toArray, List.set_cons_zero, List.set_cons_succ]
          clear hS e23
          have L9 := hiddenN (LW.out.trans (hC9.mono LW.out.size))
          have B9 := hiddenN (BW.out.trans (hC9.mono BW.out.size))
          have c9 := cellN_later hC9 c0
          clear hC9 y0 y1 y2 c0 c1 c2 MY hmy
          cases my with
          | true =>
            have HF : Hid (q = some (vn : Int)) := by show _ = _; rw [← HS.out, HDr.out, List.find?_cons, HG.out]
            go_wp2
            go_ret
            exact ⟨by rw [HF.out]; rfl, L9.out⟩
          | false =>
            have HF : Hid ((O.drop (k + 1)).find? (goU n R T F) = q) := by show _ = _; rw [← HS.out, HDr.out, List.find?_cons, HG.out]
            go_wp2
            go_roundg (M - (k + 1))
            case measure => omega
            case rel => exact ⟨k + 1, by omega, rfl, by go_num, B9.out, HF.out⟩
      · rw [decide_eq_false hxy, Bool.false_and] at HG
        have HF : Hid ((O.drop (k + 1)).find? (goU n R T F) = q) := by show _ = _; rw [← HS.out, HDr.out, List.find?_cons, HG.out]
        generalize nth F vn = x at *
        generalize nth R vn = y at *
        have hdx : decide (x < y) = false := decide_eq_false hxy
        go_upto_region 4 with fail
        go_quiet (fail)
        have b9 := drewB (Below.refl wr.heap.size wr) nq
        have B9 := hiddenN (BW.out.trans (b9.mono BW.out.size))
        clear b9
        go_wp2
        go_roundg (M - (k + 1))
        case measure => omega
        case rel => exact ⟨k + 1, by omega, rfl, by go_num, B9.out, HF.out⟩
    · have ek : k = M := by omega
      subst ek
      have HF : Hid (q = none) := by show _ = _; rw [← HS.out, List.drop_eq_nil_of_le (by rw [HM.out]; exact Nat.le_refl _)]; rfl
      go_wp2
      go_ret
      exact ⟨by rw [HF.out]; rfl, LW.out⟩
theorem nex_ord {n : NN} {R P T F : List Int} {N : Nat} : nexU n R (ordU N (wnU [] P)) T F = nexU n R (ranU N P) T F := by
  unfold nexU ordU ranU
  rw [wnU_find]
theorem mem_take_succ {M : List Int} {j : Nat} (h : j < M.length) (v : Int) : v ∈ M.take (j + 1) ↔ v ∈ M.take j ∨ nth M j = v := by
  rw [take_snoc h, List.mem_append, List.mem_singleton]
  exact ⟨fun q => q.elim .inl (fun e => .inr e.symm), fun q => q.elim .inl (fun e => .inr e.symm)⟩
set_option maxRecDepth 100000 in
set_option maxHeartbeats 16000000 in
theorem rrun15_any (n : NN) (a : Option Addr) (c : Nat) (R : List Int) (r : Option Addr) (rc : Nat) (P : List Int) (p : Option Addr) (pc : Nat) (w : World) (h : AtN w a n.arcs) (hl : n.arcs.length ≤ 4611686018427387904) (hr : At w r R) (hR : R.length ≤ 4611686018427387904) (hp : At w p P) (hP : P.length ≤ 4611686018427387904) :
    Calls Try.prog 6 #[.agg #[.int .i64 n.nodes, .slice a n.arcs.length c], .slice r R.length rc, .slice p P.length pc] w (RunE n R P w) := by
  have b0 := (Below.refl w.heap.size w).alloc (Nat.le_refl _) (.cells #[.int .i64 n.nodes, .slice a n.arcs.length c] 24)
  have b1 := (Below.refl (w.alloc (.cells #[.int .i64 n.nodes, .slice a n.arcs.length c] 24)).heap.size (w.alloc (.cells #[.int .i64 n.nodes, .slice a n.arcs.length c] 24))).alloc (Nat.le_refl _) (.cells #[.slice none 0 0, .slice none 0 0] 29)
  have hs0 : (w.alloc (.cells #[.int .i64 n.nodes, .slice a n.arcs.length c] 24)).heap.size = w.heap.size + 1 := World.size_alloc _ _
  have b2 := b0.trans (b1.mono b0.size)
  have XN := hiddenN ((blkA_new 24 w #[.int .i64 n.nodes, .slice a n.arcs.length c]).below b1)
  have XB := hiddenN (blkA_new 29 (w.alloc (.cells #[.int .i64 n.nodes, .slice a n.arcs.length c] 24)) #[.slice none 0 0, .slice none 0 0])
  rw [hs0] at XB
  have L0 := hiddenN b2
  have HA := hiddenN h
  have HR := hiddenN hr
  have HP := hiddenN hp
  have CK := hiddenN (rwrong_any n a c R r rc P p pc _ (h.below b2) hl (hr.below b2) hR (hp.below b2) hP)
  clear b0 b1 b2 hs0 h hr hp
  obtain ⟨RE, hRE⟩ : ∃ Q, RunE n R P w = Q := ⟨_, rfl⟩
  rw [hRE]
  have HRE := hiddenN hRE
  clear hRE
  obtain ⟨nb, hnb⟩ : ∃ q, w.heap.size = q := ⟨_, rfl⟩
  have HNB := hiddenN hnb
  have GOAL : Hid (∀ (x : Int) (d1 : Option Addr) (n1 c1 : Nat) (d2 : Option Addr) (n2 c2 : Nat) (W : World), errU n R P = x → n1 = (lisU n R P).length → n2 = (stkU n R P).length → CapR nb W d1 c1 (lisU n R P) → CapB nb W d2 c2 (stkU n R P) → Below nb w W → RE (.returned (.tuple #[.agg #[.slice d1 n1 c1, .slice d2 n2 c2], .int .i64 x])) W) := fun x d1 n1 c1 d2 n2 c2 W e1 e2 e3 g1 g2 g3 => by
    rw [← HRE.out]
    subst e1
    subst e2
    subst e3
    refine ⟨d1, c1, d2, c2, rfl, ?_, ?_, ?_⟩
    · rw [HNB.out]; exact g1
    · rw [HNB.out]; exact g2
    · rw [HNB.out]; exact g3
  rw [hnb] at XN XB L0
  clear HRE hnb
  by_cases he : errU n R P = 0
  · obtain ⟨e1, e2, e3⟩ := err_zero he
    have hF := fin_of he
    have hg := hF.good
    have hM := hiddenN (start_mid he)
    have hS := hF.sound
    have HS := hiddenN hS
    have hnn := nodes_nat hS
    have VL : Hid (bloU n R P = [] → lisU n R P = (finU n R P).1 ∧ stkU n R P = []) := fun hb => by unfold lisU stkU; rw [if_pos he, if_pos hb, if_pos he, hb]; exact ⟨rfl, rfl⟩
    have VS : Hid (bloU n R P ≠ [] → lisU n R P = [] ∧ stkU n R P = bloU n R P) := fun hb => by unfold lisU stkU; rw [if_pos he, if_neg hb, if_pos he]; exact ⟨rfl, rfl⟩
    have HE := hiddenN he
    rw [he] at CK
    obtain ⟨N, hN⟩ : ∃ N : Nat, n.nodes = (N : Int) := ⟨n.nodes.toNat, by omega⟩
    have HNN := hiddenN hN
    have HNt : Hid (n.nodes.toNat = N) := by show _ = _; omega
    have hN1 : 1 ≤ N ∧ N ≤ 32 := by omega
    have HRl : Hid (R.length = N) := by show _ = _; have := hg.len; omega
    have HRn : Hid (R.length = n.nodes.toNat) := hg.len
    have HPi : Hid (∀ z ∈ P, 0 ≤ z ∧ z < (N : Int)) := fun z hz => by have := node_in (arnU_iff.1 e3 z hz); omega
    have HW := hiddenN hg.win
    rw [HRl.out] at CK ⊢
    obtain ⟨lp, hlp⟩ : ∃ q, P.length = q := ⟨_, rfl⟩
    have HLP := hiddenN hlp
    rw [hlp] at CK hP ⊢
    clear hF hS hg he e1 e2 e3 hnn hN hlp hR
    go_enter Try.func6, Try.ntmps6
    go_upto_region 1 with fail
    generalize (w.alloc (.cells #[.int .i64 n.nodes, .slice a n.arcs.length c] 24)).alloc (.cells #[.slice none 0 0, .slice none 0 0] 29) = W0 at *
    rw [HNB.out]
    have y0 := XN.out.cell (k := 0) rfl
    have y1 := XN.out.cell (k := 1) rfl
    simp only [List.getElem_toArray, List.getElem_cons_zero, List.getElem_cons_succ] at y0 y1
    go_upto_region 4 with (go_at_call 13; (with_reducible refine CK.out.mono ?_); rintro e W1 ⟨rfl, b1⟩; have B1 := hiddenN b1; clear b1)
    have hw0 : nb ≤ W0.heap.size := by have := L0.out.size; have := HNB.out; omega
    have L1 := hiddenN (L0.out.trans (B1.out.mono hw0))
    have N1 := hiddenN (XN.out.below B1.out)
    have Y1 := hiddenN (XB.out.below B1.out)
    have hw1 : nb ≤ W1.heap.size := Nat.le_trans hw0 B1.out.size
    clear CK XN XB L0 B1 y0 y1 hw0
    obtain ⟨Q1, hQ1⟩ : ∃ q, W1.heap.size = q := ⟨_, rfl⟩
    have HQ1 := hiddenN hQ1
    have hn1 : nb < Q1 := by rw [← hQ1]; exact N1.out.lt
    have hy1 : nb + 1 < Q1 := by rw [← hQ1]; exact Y1.out.lt
    have hQ1' : Q1 ≤ W1.heap.size := by omega
    clear hQ1
    go_upto_region 6 with fail
    go_loopg [9, 10] lp (fun gk u9 u10 wr => ∃ (i c1 : Nat) (d1 : Option Addr), i ≤ lp ∧ gk = lp - i ∧ u10 = .int .i64 (i : Int) ∧ u9 = .slice d1 (wnU [] (P.take i)).length c1 ∧ CapR Q1 wr d1 c1 (wnU [] (P.take i)) ∧ Below Q1 W1 wr)
    case atStart => exact ⟨0, 0, none, Nat.zero_le _, rfl, rfl, rfl, World.ownsRow_nil _ _ _ _, Below.refl _ _⟩
    case round =>
      obtain ⟨i, c1, d1, hi, rfl, rfl, rfl, hcp, hbw⟩ := hrel
      obtain ⟨wA, hwA⟩ : ∃ q : World, q = wr := ⟨_, rfl⟩
      subst hwA
      have C1 := hiddenN hcp
      have B1 := hiddenN hbw
      have hQr : Q1 ≤ wA.heap.size := Nat.le_trans hQ1' hbw.size
      have LW : Hid (Below nb w wA) := L1.out.trans (hbw.mono (Nat.le_of_lt hn1))
      clear hcp hbw
      have hM1 := nodup_few (N := N) (O := wnU [] (P.take i)) (wnU_nodup List.nodup_nil) (fun z hz => by
        rcases wnU_mem.1 hz with q | q
        · cases q
        · exact HPi.out z (List.mem_of_mem_take q))
      by_cases hlt : i < lp
      · have hiP : i < P.length := by rw [HLP.out]; exact hlt
        have hiI : (i : Int) < (lp : Int) := by omega
        have WS : Hid (wnU [] (P.take (i + 1)) = if nth P i ∈ wnU [] (P.take i) then wnU [] (P.take i) else wnU [] (P.take i) ++ [nth P i]) := by show _ = _; rw [take_snoc hiP, wnU_snoc]
        have LW' : Hid (Below w.heap.size w wA) := by show Below _ _ _; rw [HNB.out]; exact LW.out
        rcases HP.out.below LW'.out with e | ⟨pb, po, rfl, hcp⟩
        · rw [e] at hiP; exact absurd hiP (Nat.not_lt_zero _)
        have c0 := hcp i hiP
        clear hcp LW'
        generalize nth P i = v at *
        generalize hMM : wnU [] (P.take i) = M1 at *
        obtain ⟨m1, hm1⟩ : ∃ q, M1.length = q := ⟨_, rfl⟩
        have HM1 := hiddenN hm1
        rw [hm1] at hM1 ⊢
        clear hm1 hMM
        go_upto_region 10 with fail
        go_loopg [11, 12] m1 (fun gk u11 u12 wi => ∃ (j : Nat) (b : Bool), j ≤ m1 ∧ gk = m1 - j ∧ u12 = .int .i64 (j : Int) ∧ u11 = .bool b ∧ b = decide (v ∈ M1.take j) ∧ Below wA.heap.size wA wi)
        case atStart => exact ⟨0, false, Nat.zero_le _, rfl, rfl, rfl, by simp, Below.refl _ _⟩
        case round =>
          obtain ⟨j, b, hj, rfl, rfl, rfl, hb, hbi⟩ := hrel
          obtain ⟨wi, hwi⟩ : ∃ q : World, q = wr := ⟨_, rfl⟩
          subst hwi
          have HB := hiddenN hb
          have BI := hiddenN hbi
          have ci := cellN_later hbi c0
          clear hb hbi
          by_cases hjt : j < m1
          · have hjI : (j : Int) < (m1 : Int) := by omega
            have hjM : j < M1.length := by rw [HM1.out]; exact hjt
            have MT := hiddenN (mem_take_succ hjM v)
            rcases (C1.out.later BI.out).at with e | ⟨ob, oo, rfl, hco⟩
            · rw [e] at hjM; exact absurd hjM (Nat.not_lt_zero _)
            have c1' := hco j hjM
            clear hco
            go_upto_region 12 with fail
            cases b with
            | true =>
              have HN2 : Hid (true = decide (v ∈ M1.take (j + 1))) := by show _ = _; symm; rw [decide_eq_true_iff, MT.out]; exact .inl (of_decide_eq_true HB.out.symm)
              go_quiet (fail)
              have b9 := drewB (Below.refl wi.heap.size wi) nq
              have B9 := hiddenN (BI.out.trans (b9.mono BI.out.size))
              clear b9
              go_wp2
              go_roundg (m1 - (j + 1))
              case measure => omega
              case rel => exact ⟨j + 1, true, by omega, rfl, by go_num, rfl, HN2.out, B9.out⟩
            | false =>
              have hnot : ¬ v ∈ M1.take j := of_decide_eq_false HB.out.symm
              by_cases e : nth M1 j = v
              · have HN2 : Hid (true = decide (v ∈ M1.take (j + 1))) := by show _ = _; symm; rw [decide_eq_true_iff, MT.out]; exact .inr e
                rw [e] at c1'
                have hvv : (v == v) = true := by simp
                clear e hnot
                go_quiet (fail)
                have b9 := drewB (Below.refl wi.heap.size wi) nq
                have B9 := hiddenN (BI.out.trans (b9.mono BI.out.size))
                clear b9
                go_wp2
                go_roundg (m1 - (j + 1))
                case measure => omega
                case rel => exact ⟨j + 1, true, by omega, rfl, by go_num, by first | rfl | simp, HN2.out, B9.out⟩
              · have HN2 : Hid (false = decide (v ∈ M1.take (j + 1))) := by show _ = _; symm; rw [decide_eq_false_iff_not, MT.out]; exact fun q => q.elim hnot e
                have hvv : (nth M1 j == v) = false := by simpa using e
                clear e hnot
                generalize nth M1 j = z at *
                go_quiet (fail)
                have b9 := drewB (Below.refl wi.heap.size wi) nq
                have B9 := hiddenN (BI.out.trans (b9.mono BI.out.size))
                clear b9
                go_wp2
                go_roundg (m1 - (j + 1))
                case measure => omega
                case rel => exact ⟨j + 1, false, by omega, rfl, by go_num, by first | rfl | simp [hvv], HN2.out, B9.out⟩
          · have ej : j = m1 := by omega
            subst ej
            rw [List.take_of_length_le (by rw [HM1.out]; exact Nat.le_refl _)] at HB
            cases b with
            | true =>
              have hv := of_decide_eq_true HB.out.symm
              rw [if_pos hv] at WS
              have C9 := hiddenN (C1.out.later BI.out)
              have B9 := hiddenN (B1.out.trans (BI.out.mono hQr))
              clear hv
              go_wp2
              go_roundg (lp - (i + 1))
              case measure => omega
              case rel => exact ⟨i + 1, c1, d1, by omega, rfl, by go_num, by rw [WS.out, HM1.out], by rw [WS.out]; exact C9.out, B9.out⟩
            | false =>
              have hv := of_decide_eq_false HB.out.symm
              rw [if_neg hv] at WS
              have ba := (Below.refl wi.heap.size wi).alloc (Nat.le_refl _) (.cells #[.int .i64 v] 3)
              have hQi : Q1 ≤ wi.heap.size := Nat.le_trans hQr BI.out.size
              have AX := hiddenN (at_alloc1 wi v)
              have CX := hiddenN ((C1.out.later BI.out).later ba)
              have BX := hiddenN ((B1.out.trans (BI.out.mono hQr)).trans (ba.mono hQi))
              have hQx : Q1 ≤ (wi.alloc (.cells #[.int .i64 v] 3)).heap.size := Nat.le_trans hQi ba.size
              clear ba hv
              go_wp2_with (at_builtin; refine wpList_appI rfl _ _ rfl Q1 d1 c1 M1 (by rw [HM1.out]; rfl) CX.out (some ⟨wi.heap.size, 0, none⟩) 1 [v] rfl (fun e => by cases e) AX.out (by rw [HM1.out]; simp; omega) hQx (j + 1) (M1 ++ [v]) (by rw [HM1.out]; rfl) rfl ?_; intro d3 c3 W3 hd3 b3; have C3 := hiddenN hd3; have B3 := hiddenN (BX.out.trans b3); clear hd3 b3)
              go_roundg (lp - (i + 1))
              case measure => omega
              case rel => exact ⟨i + 1, c3, d3, by omega, rfl, by go_num, by rw [WS.out, List.length_append, HM1.out]; rfl, by rw [WS.out]; exact C3.out, B3.out⟩
      · have ei : i = lp := by omega
        subst ei
        have HT : Hid (P.take i = P) := List.take_of_length_le (by rw [HLP.out]; exact Nat.le_refl _)
        rw [HT.out] at C1 hM1 ⊢
        have N2 := hiddenN (N1.out.keep (B1.out.block _ hn1))
        have Y2 := hiddenN (Y1.out.keep (B1.out.block _ hy1))
        have OR := hiddenN (rorder_any n N HNN.out hN1.2 a c (wnU [] P) d1 c1 wA C1.out.at (fun e => by subst e; exact C1.out.noneN) (by omega))
        have y0 := N2.out.cell (k := 0) rfl
        have y1 := N2.out.cell (k := 1) rfl
        simp only [List.getElem_toArray, List.getElem_cons_zero, List.getElem_cons_succ] at y0 y1
        have HO : Hid ((ordU N (wnU [] P)).length ≤ 64 ∧ ∀ v ∈ ordU N (wnU [] P), nodeB n v = true) := by
          have hnn := HNN.out
          refine ⟨?_, fun v hv => decide_eq_true ?_⟩
          · unfold ordU
            rw [List.length_append]
            have : ∀ m, (fallU m).length = m := fun m => by
              induction m with
              | zero => rfl
              | succ m ih => show (fallU m).length + 1 = m + 1; rw [ih]
            rw [this]; omega
          · rcases List.mem_append.1 hv with q | q
            · rcases wnU_mem.1 q with q | q
              · cases q
              · have := HPi.out v q; omega
            · have := fallU_mem.1 q; omega
        go_upto_region 16 with (go_at_call 14; (with_reducible refine OR.out.mono ?_); rintro e W3 ⟨d3, c3, rfl, hc3, b3⟩; have O3 := hiddenN hc3; have B3 := hiddenN b3; clear hc3 b3)
        have L3 := hiddenN (LW.out.trans (B3.out.mono (Nat.le_trans (Nat.le_of_lt hn1) hQr)))
        have N3 := hiddenN (N2.out.below B3.out)
        have Y3 := hiddenN (Y2.out.below B3.out)
        have hy3 := Y2.out.lt
        clear OR y0 y1 N2 Y2 C1 LW B1 L1 N1 Y1
        have y0 := N3.out.cell (k := 0) rfl
        have y1 := N3.out.cell (k := 1) rfl
        simp only [List.getElem_toArray, List.getElem_cons_zero, List.getElem_cons_succ] at y0 y1
        have LA : Hid (∀ W, Below nb w W → AtN W a n.arcs ∧ At W r R) := fun W hW => by rw [← HNB.out] at hW; exact ⟨HA.out.below hW, HR.out.below hW⟩
        have STc := hiddenN (rstart10_any W3 n a c N HS.out HNN.out (LA.out W3 L3.out).1 (fun x hx hne => by
          rcases (LA.out W3 L3.out).1 with e | ⟨b, off, e, hc⟩
          · exact absurd e hne
          · rw [e] at hx; cases hx
            exact block_lt_of_cell (hc 0 (List.length_pos_iff.2 hne)).1))
        go_upto_region 17 with (go_at_call 15; (with_reducible refine STc.out.mono ?_); rintro e W4 ⟨g, rfl, hd4, b4⟩; have D4 := hiddenN hd4; have B4 := hiddenN b4; clear hd4 b4)
        have hw3 : nb ≤ W3.heap.size := by have := L3.out.size; have := HNB.out; omega
        have L4 := hiddenN (L3.out.trans (B4.out.mono hw3))
        have N4 := hiddenN (N3.out.below B4.out)
        have Y4 := hiddenN (Y3.out.below B4.out)
        have O4 := hiddenN (O3.out.later B4.out)
        have hg3 : W3.heap.size ≤ g ∧ g < W4.heap.size := D4.out.fir.lt _ rfl
        have hO3 : ∀ x, d3 = some x → x.block ≠ g := fun x hx => by have := (O3.out.lt x hx).2; omega
        have b5 := (Below.refl W4.heap.size W4).alloc (Nat.le_refl _) (.cells #[.int .i64 n.nodes, .slice a n.arcs.length c, .slice (some ⟨g, 0, none⟩) N N] 50)
        have X5 := hiddenN (blkA_new 50 W4 #[.int .i64 n.nodes, .slice a n.arcs.length c, .slice (some ⟨g, 0, none⟩) N N])
        have L5 := hiddenN (L4.out.trans (b5.mono (Nat.le_trans hw3 B4.out.size)))
        have N5 := hiddenN (N4.out.below b5)
        have Y5 := hiddenN (Y4.out.below b5)
        have O5 := hiddenN (O4.out.later b5)
        have D5 := hiddenN (D4.out.below b5)
        obtain ⟨sb, hsb0⟩ : ∃ q, W4.heap.size = q := ⟨_, rfl⟩
        rw [hsb0] at X5 hg3 ⊢
        have hgs : g < sb := hg3.2
        have hng : nb + 1 < g := by have := Y3.out.lt; omega
        clear b5 hsb0 STc N3 Y3 O3 O4 N4 Y4 L3 L4 D4 B3 B4 y0 y1
        generalize W4.alloc (.cells #[.int .i64 n.nodes, .slice a n.arcs.length c, .slice (some ⟨g, 0, none⟩) N N] 50) = W5 at *
        obtain ⟨Q, hQ⟩ : ∃ q, W5.heap.size = q := ⟨_, rfl⟩
        have HQ := hiddenN hQ
        have hsQ : sb < Q := by rw [← hQ]; exact X5.out.lt
        have hQ5 : Q ≤ W5.heap.size := by omega
        have hOQ : ∀ x, d3 = some x → x.block < Q := fun x hx => by rw [← hQ]; exact (O5.out.lt x hx).2
        clear hQ
        have NXa : Hid (∀ (W : World) (T1 F1 : List Int), DocS W3.heap.size W n a g N F1 → InvN n T1 F1 → Below nb w W → At W d3 (ordU N (wnU [] P)) → Calls Try.prog 16 #[.agg #[.int .i64 n.nodes, .slice a n.arcs.length c, .slice (some ⟨g, 0, none⟩) N N], .slice r N rc, .slice d3 (ordU N (wnU [] P)).length c3] W fun e w' => e = .returned (.int .i64 (nxI (nexU n R (ranU n.nodes.toNat P) T1 F1))) ∧ Below W.heap.size W w') := fun W T1 F1 q1 q2 q3 q4 => by
          have := rnext15_any W n a c g N T1 F1 R (ordU N (wnU [] P)) r d3 rc c3 q1 q2 HRl.out (LA.out W q3).2 q4 HO.out.1 HO.out.2
          rw [nex_ord, ← HNt.out] at this
          rw [HNt.out] at this ⊢
          exact this
        have y0 := X5.out.cell (k := 0) rfl
        have y1 := X5.out.cell (k := 1) rfl
        have y2 := X5.out.cell (k := 2) rfl
        simp only [List.getElem_toArray, List.getElem_cons_zero, List.getElem_cons_succ] at y0 y1 y2
        have N0 : Hid (Calls Try.prog 16 #[.agg #[.int .i64 n.nodes, .slice a n.arcs.length c, .slice (some ⟨g, 0, none⟩) N N], .slice r N rc, .slice d3 (ordU N (wnU [] P)).length c3] W5 fun e w' => e = .returned (.int .i64 (nxI (nexU n R (ranU n.nodes.toNat P) (startT n) (List.replicate n.nodes.toNat 0)))) ∧ Below W5.heap.size W5 w') := NXa.out W5 (startT n) (List.replicate n.nodes.toNat 0) (by rw [HNt.out]; exact D5.out) (start_inv HS.out rfl) L5.out O5.out.at
        go_upto_region 19 with (go_at_call 16; (with_reducible refine N0.out.mono ?_); rintro e W5' ⟨rfl, b1⟩; have B5 := hiddenN b1; clear b1)
        clear N0 y0 y1 y2
        have hnbQ : nb ≤ Q := by omega
        go_loopg [15, 16] 2048 (fun gk u15 u16 wr => ∃ (Z T1 F1 LL : List Int) (d : Option Addr) (cZ : Nat) (m1 x : Int), u15 = .slice d Z.length cZ ∧ u16 = .int .i64 x ∧ x = nxI (nexU n R (ranU n.nodes.toNat P) T1 F1) ∧ DocS W3.heap.size wr n a g N F1 ∧ InvN n T1 F1 ∧ LL.length = n.nodes.toNat ∧ CapR Q wr d cZ Z ∧ Below nb w wr ∧ Q ≤ wr.heap.size ∧ (∀ k, k < Q → k ≠ g → wr.heap[k]? = W5.heap[k]?) ∧ MidU n R (ranU n.nodes.toNat P) 2048 (startT n) (List.replicate n.nodes.toNat 0) Z T1 F1 LL m1 gk)
        case atStart => exact ⟨[], startT n, List.replicate n.nodes.toNat 0, R, none, 0, 0, _, rfl, rfl, rfl, by rw [HNt.out]; exact D5.out.below B5.out, start_inv HS.out rfl, HRn.out, World.ownsRow_nil _ _ _ _, L5.out.trans (B5.out.mono (by omega)), Nat.le_trans hQ5 B5.out.size, fun k hk _ => B5.out.block k (by omega), hM.out⟩
        case round =>
          clear B5
          obtain ⟨Z, T1, F1, LL, dZ, cZ, m1, x, rfl, rfl, hx, hD, hI, hLL, hC, hb, hQr, hkp, hMd⟩ := hrel
          obtain ⟨wC, hwC⟩ : ∃ q : World, q = wr := ⟨_, rfl⟩
          subst hwC
          have D1 := hiddenN hD
          have I1 := hiddenN hI
          have C1 := hiddenN hC
          have B1 := hiddenN hb
          have K1 := hiddenN hkp
          have M1 := hiddenN hMd
          clear hD hI hC hb hkp hMd
          cases hnx : nexU n R (ranU n.nodes.toNat P) T1 F1 with
          | none =>
            rw [hnx] at hx
            have hx' : x = -1 := hx
            subst hx'
            have HEr := hiddenN (M1.out.done hnx)
            have HF1 : Hid (finU n R P = (Z, T1, F1)) := HEr.out
            have HBl : Hid (bloU n R P = blkU n R T1 F1 N) := by show _ = _; unfold bloU; rw [HF1.out, HNt.out]
            have HZ1 : Hid ((finU n R P).1 = Z) := by show _ = _; rw [HF1.out]
            clear hx hnx
            obtain ⟨Q2, hQ2⟩ : ∃ q, wC.heap.size = q := ⟨_, rfl⟩
            have HQ2 := hiddenN hQ2
            have hQ6 : Q2 ≤ wC.heap.size := by omega
            have hsb : sb < Q2 := by omega
            have hgQ : g < Q2 := by omega
            have X6 := hiddenN (X5.out.keep (K1.out sb hsQ (by omega)))
            have N6 := hiddenN (N5.out.keep (K1.out nb (by omega) (by omega)))
            have Y6 := hiddenN (Y5.out.keep (K1.out (nb + 1) (by omega) (by omega)))
            have HSH := hiddenN (fun (W : World) (q : DocS W3.heap.size W n a g N F1) (v : Int) => rshort10_any W n a c g N T1 F1 q I1.out v)
            clear hQ2 NXa X5 N5 Y5 O5 D5 L5
            go_upto_region 25 with fail
            go_loopg [17, 18] N (fun gk u17 u18 wr => ∃ (vn cM : Nat) (d : Option Addr), vn ≤ N ∧ gk = N - vn ∧ u18 = .int .i64 (vn : Int) ∧ u17 = .slice d (blkU n R T1 F1 vn).length cM ∧ CapB Q2 wr d cM (blkU n R T1 F1 vn) ∧ Below Q2 wC wr)
            case atStart => exact ⟨0, 0, none, Nat.zero_le _, rfl, rfl, rfl, CapB.nil _ _, Below.refl _ _⟩
            case round =>
              obtain ⟨vn, cM, d, hv, rfl, rfl, rfl, hcap, hbw⟩ := hrel
              have CM := hiddenN hcap
              have BW := hiddenN hbw
              have hQr2 : Q2 ≤ wr.heap.size := Nat.le_trans hQ6 hbw.size
              have LW := hiddenN (B1.out.trans (hbw.mono (by omega)))
              clear hcap hbw
              have nn0 := (N6.out.keep (BW.out.block nb (by omega))).cell (k := 0) rfl
              simp only [List.getElem_toArray, List.getElem_cons_zero] at nn0
              rw [HNN.out] at nn0
              by_cases hlt : vn < N
              · have hvN : vn < N := hlt
                have hvI : (vn : Int) < (N : Int) := by omega
                have XW := hiddenN (X6.out.keep (BW.out.block sb hsb))
                have DW : Hid (DocS W3.heap.size wr n a g N F1) := ⟨(LA.out wr LW.out).1, D1.out.fir.keep (fun y hy => by cases hy; exact BW.out.block g hgQ), D1.out.lF, D1.out.nodes, D1.out.sound, D1.out.far, D1.out.inr⟩
                have c1 := DW.out.cell hvN
                have hvR : vn < R.length := by rw [HRl.out]; exact hvN
                rcases (LA.out wr LW.out).2 with e | ⟨rb, ro, rfl, hcr⟩
                · rw [e] at hvR; exact absurd hvR (Nat.not_lt_zero _)
                have c2 := hcr vn hvR
                have y0 := XW.out.cell (k := 0) rfl
                have y1 := XW.out.cell (k := 1) rfl
                have y2 := XW.out.cell (k := 2) rfl
                simp only [List.getElem_toArray, List.getElem_cons_zero, List.getElem_cons_succ] at y0 y1 y2
                clear hcr
                by_cases hl : nth F1 vn < nth R vn
                · have WS := hiddenN (blkU_yes (n := n) (T := T1) hl)
                  have hMl := blkU_len n R T1 F1 vn
                  have y0' := X6.out.cell (k := 0) rfl
                  have y1' := X6.out.cell (k := 1) rfl
                  have y2' := X6.out.cell (k := 2) rfl
                  have c1' := D1.out.cell hvN
                  simp only [List.getElem_toArray, List.getElem_cons_zero, List.getElem_cons_succ] at y0' y1' y2'
                  have SHb : Hid (∀ (W : World), Below wr.heap.size wr W → Calls Try.prog 18 #[.agg #[.int .i64 n.nodes, .slice a n.arcs.length c, .slice (some ⟨g, 0, none⟩) N N], .int .i64 (vn : Int)] W fun e w' => e = .returned (.int .i64 (shortN n T1 (vn : Int))) ∧ Below W.heap.size W w') := fun W hW => HSH.out W (DW.out.below hW) _
                  generalize shortN n T1 (vn : Int) = y at *
                  generalize nth F1 vn = x at *
                  generalize nth R vn = ry at *
                  generalize blkU n R T1 F1 vn = M at *
                  go_upto_region 27 with fail
                  go_quiet (fail)
                  have b8 := drewB (Below.refl wr.heap.size wr) nq
                  have CM8 := hiddenN (CM.out.later b8)
                  have BW8 := hiddenN (BW.out.trans (b8.mono hQr2))
                  have hQ8 : Q2 ≤ (wr.drewN nq).heap.size := Nat.le_trans hQr2 b8.size
                  have SH : Hid (∀ (W : World), Below (wr.drewN nq).heap.size (wr.drewN nq) W → Calls Try.prog 18 #[.agg #[.int .i64 n.nodes, .slice a n.arcs.length c, .slice (some ⟨g, 0, none⟩) N N], .int .i64 (vn : Int)] W fun e w' => e = .returned (.int .i64 y) ∧ Below W.heap.size W w') := fun W hW => SHb.out W (b8.trans (hW.mono b8.size))
                  clear b8 CM BW hQr2 SHb y0 y1 y2 c1 c2 nn0 XW DW LW
                  generalize wr.drewN nq = w8 at *
                  have CM := CM8
                  have BW := BW8
                  have hQr := hQ8
                  have y0 := y0'
                  have y1 := y1'
                  have y2 := y2'
                  have c1 := c1'
                  clear CM8 BW8 hQ8 y0' y1' y2' c1'
                  go_upto_region 28 with fail
                  refine wp_region_gen [12] (fun d_ i u z => match i with
                      | 0 => z = .slice d M.length cM
                      | 1 => z = .int .i64 (vn : Int)
                      | 2 => z = .pointer (some ⟨sb, 2, none⟩)
                      | 3 => z = .slice (some ⟨g, 0, none⟩) N N
                      | 4 => z = .int .i64 (vn : Int)
                      | 5 => z = .pointer (some ⟨g, vn, none⟩)
                      | 6 => z = .int .i64 x
                      | 7 => z = .agg #[.int .i64 n.nodes, .slice a n.arcs.length c, .slice (some ⟨g, 0, none⟩) N N]
                      | 8 => z = .int .i64 (vn : Int)
                      | 9 => z = .int .i64 y
                      | 10 => z = .agg #[.int .i64 (vn : Int), .int .i64 x, .int .i64 y]
                      | 11 => (d_ 12 = false → ElB (⟨(vn : Int), x, y⟩ : BK) u z)
                      | 12 => (d_ 12 = true ∧ SlB Q2 (M ++ [(⟨(vn : Int), x, y⟩ : BK)]) u z)
                      | 13 => (d_ 12 = true ∧ SlB Q2 (M ++ [(⟨(vn : Int), x, y⟩ : BK)]) u z)
                      | _ => True) (fun d_ u => (d_ 12 = false → Below w8.heap.size w8 u) ∧ Below Q2 wC u) (by kernel_rfl) (by kernel_rfl) (by kernel_rfl) ?_ ?_ ?_ ?_ ?_ ?_ (by kernel_rfl)
                  · intro d_ i w v w' h hb
                    match i, h with
                    | 0, h => exact h
                    | 1, h => exact h
                    | 2, h => exact h
                    | 3, h => exact h
                    | 4, h => exact h
                    | 5, h => exact h
                    | 6, h => exact h
                    | 7, h => exact h
                    | 8, h => exact h
                    | 9, h => exact h
                    | 10, h => exact h
                    | 11, h => exact fun e => (h e).later hb
                    | 12, h => exact ⟨h.1, h.2.later hb⟩
                    | 13, h => exact ⟨h.1, h.2.later hb⟩
                    | _ + 14, _ => trivial
                  · intro d_ u u' h hb
                    exact ⟨fun e => (h.1 e).trans (hb.mono (h.1 e).size), h.2.trans (hb.mono (Nat.le_trans hQ6 h.2.size))⟩
                  · exact ⟨fun _ => Below.refl _ _, BW.out⟩
                  · intro d_ i o ρ w' hm ho hf hg hC hcs hfs hfr hdep
                    match i, hm, ho, hf, hg, hfr, hdep with
                    | 0, _, ho, hf, hg, hfr, hdep =>
                      simp only [gTA, gCZ, gSI] at ho
                      subst ho
                      refine ⟨fun _ => ?_, fun hw => absurd (show true = false from hw) (by decide)⟩
                      have ts : ρ (.tmp 17) = .slice d M.length cM := hfr 17 (by kernel_rfl)
                      simp [go_sem, ts]
                      exact ⟨Below.refl _ _, rfl⟩
                    | 1, _, ho, hf, hg, hfr, hdep =>
                      simp only [gTA, gCZ, gCS, gSI] at ho
                      subst ho
                      refine ⟨fun _ => ?_, fun hw => absurd (show true = false from hw) (by decide)⟩
                      have ts : ρ (.tmp 18) = .int .i64 (vn : Int) := hfr 18 (by kernel_rfl)
                      simp [go_sem, ts]
                      exact ⟨Below.refl _ _, rfl⟩
                    | 2, _, ho, hf, hg, hfr, hdep =>
                      simp only [gTA, gCZ, gCS, gSI] at ho
                      subst ho
                      refine ⟨fun _ => ?_, fun hw => absurd (show true = false from hw) (by decide)⟩
                      have ts : ρ (.tmp 14) = .pointer (some ⟨sb, 0, none⟩) := hfr 14 (by kernel_rfl)
                      simp [go_sem, ts]
                      exact ⟨Below.refl _ _, rfl⟩
                    | 3, _, ho, hf, hg, hfr, hdep =>
                      simp only [gTA, gCZ, gCS, gSI] at ho
                      subst ho
                      refine ⟨fun _ => ?_, fun hw => absurd (show true = false from hw) (by decide)⟩
                      have cc := cellN_keep hC.2 hsb y2
                      have d0 : ρ (.tmp 101) = .pointer (some ⟨sb, 2, none⟩) := hdep 2 101 (by kernel_rfl) (by kernel_rfl)
                      simp [go_sem, d0, cc]
                      exact ⟨Below.refl _ _, rfl⟩
                    | 4, _, ho, hf, hg, hfr, hdep =>
                      simp only [gTA, gCZ, gCS, gSI] at ho
                      subst ho
                      refine ⟨fun _ => ?_, fun hw => absurd (show true = false from hw) (by decide)⟩
                      have ts : ρ (.tmp 18) = .int .i64 (vn : Int) := hfr 18 (by kernel_rfl)
                      simp [go_sem, ts]
                      exact ⟨Below.refl _ _, rfl⟩
                    | 5, _, ho, hf, hg, hfr, hdep =>
                      simp only [gTA, gCZ, gCS, gSI] at ho
                      subst ho
                      refine ⟨fun _ => ?_, fun hw => absurd (show true = false from hw) (by decide)⟩
                      have d0 : ρ (.tmp 102) = .slice (some ⟨g, 0, none⟩) N N := hdep 3 102 (by kernel_rfl) (by kernel_rfl)
                      have d1 : ρ (.tmp 103) = .int .i64 (vn : Int) := hdep 4 103 (by kernel_rfl) (by kernel_rfl)
                      simp [go_sem, d0, d1, hvN]
                      exact ⟨Below.refl _ _, rfl⟩
                    | 6, _, ho, hf, hg, hfr, hdep =>
                      simp only [gTA, gCZ, gCS, gSI] at ho
                      subst ho
                      refine ⟨fun _ => ?_, fun hw => absurd (show true = false from hw) (by decide)⟩
                      have cc := cellN_keep hC.2 hgQ c1
                      have d0 : ρ (.tmp 104) = .pointer (some ⟨g, vn, none⟩) := hdep 5 104 (by kernel_rfl) (by kernel_rfl)
                      simp [go_sem, d0, cc]
                      exact ⟨Below.refl _ _, rfl⟩
                    | 7, _, ho, hf, hg, hfr, hdep =>
                      simp only [gTA, gCZ, gCS, gSI] at ho
                      subst ho
                      refine ⟨fun _ => ?_, fun hw => absurd (show true = false from hw) (by decide)⟩
                      have ts : ρ (.tmp 14) = .pointer (some ⟨sb, 0, none⟩) := hfr 14 (by kernel_rfl)
                      have k0 := cellN_keep hC.2 hsb y0
                      have k1 := cellN_keep hC.2 hsb y1
                      have k2 := cellN_keep hC.2 hsb y2
                      simp [go_sem, ts, k0, k1, k2]
                      exact ⟨Below.refl _ _, rfl⟩
                    | 8, _, ho, hf, hg, hfr, hdep =>
                      simp only [gTA, gCZ, gCS, gSI] at ho
                      subst ho
                      refine ⟨fun _ => ?_, fun hw => absurd (show true = false from hw) (by decide)⟩
                      have ts : ρ (.tmp 18) = .int .i64 (vn : Int) := hfr 18 (by kernel_rfl)
                      simp [go_sem, ts]
                      exact ⟨Below.refl _ _, rfl⟩
                    | 9, _, ho, hf, hg, hfr, hdep =>
                      simp only [gTA, gCZ, gCS, gSI] at ho
                      subst ho
                      refine ⟨fun _ => ?_, fun hw => absurd (show true = false from hw) (by decide)⟩
                      have t0 : ρ (.tmp 106) = .agg #[.int .i64 n.nodes, .slice a n.arcs.length c, .slice (some ⟨g, 0, none⟩) N N] := hdep 7 106 (by kernel_rfl) (by kernel_rfl)
                      have t1 : ρ (.tmp 107) = .int .i64 (vn : Int) := hdep 8 107 (by kernel_rfl) (by kernel_rfl)
                      have h12 : d_ 12 = false := hf 12 (by decide) (by kernel_rfl)
                      simp [go_sem, t0, t1, hfs]
                      exact ⟨rfl, (SH.out w' (hC.1 h12)).mono fun e w'' hh => ⟨_, hh.1, hh.2, rfl⟩⟩
                    | 10, _, ho, hf, hg, hfr, hdep =>
                      simp only [gTA, gCZ, gCS, gSI] at ho
                      subst ho
                      refine ⟨fun _ => ?_, fun hw => absurd (show true = false from hw) (by decide)⟩
                      have d0 : ρ (.tmp 100) = .int .i64 (vn : Int) := hdep 1 100 (by kernel_rfl) (by kernel_rfl)
                      have d1 : ρ (.tmp 105) = .int .i64 x := hdep 6 105 (by kernel_rfl) (by kernel_rfl)
                      have d2 : ρ (.tmp 108) = .int .i64 y := hdep 9 108 (by kernel_rfl) (by kernel_rfl)
                      simp [go_sem, d0, d1, d2]
                      exact ⟨Below.refl _ _, rfl⟩
                    | 11, _, ho, hf, hg, hfr, hdep =>
                      simp only [gTA, gCZ, gCS, gSI] at ho
                      subst ho
                      refine ⟨fun _ => ?_, fun hw => absurd (show true = false from hw) (by decide)⟩
                      have t0 : ρ (.tmp 109) = .agg #[.int .i64 (vn : Int), .int .i64 x, .int .i64 y] := hdep 10 109 (by kernel_rfl) (by kernel_rfl)
                      simp [go_sem, t0]
                      exact ⟨(Below.refl _ _).alloc (Nat.le_refl _) _, fun _ => ⟨w'.heap.size, rfl, (blkA_new 56 w' #[.int .i64 (vn : Int), .int .i64 x, .int .i64 y]).cell rfl, (blkA_new 56 w' #[.int .i64 (vn : Int), .int .i64 x, .int .i64 y]).cell rfl, (blkA_new 56 w' #[.int .i64 (vn : Int), .int .i64 x, .int .i64 y]).cell rfl⟩⟩
                    | 12, hm, _, _, _, _, _ => exact absurd hm (by decide)
                    | 13, _, ho, hf, hg, hfr, hdep =>
                      simp only [gTA, gCZ, gCS, gSI] at ho
                      subst ho
                      refine ⟨fun _ => ?_, fun hw => absurd (show true = false from hw) (by decide)⟩
                      have t0 : d_ 12 = true ∧ SlB Q2 (M ++ [(⟨(vn : Int), x, y⟩ : BK)]) w' (ρ (.tmp 111)) := hdep 12 111 (by kernel_rfl) (by kernel_rfl)
                      obtain ⟨qd, d9, c9, q0, q1⟩ := t0
                      simp [go_sem, q0]
                      exact ⟨Below.refl _ _, qd, d9, c9, by rw [List.length_append]; rfl, q1⟩
                    | n + 14, _, ho, _, _, _, _ => simp at ho
                  · intro d_ i o ρ w' hm ho h0 hf hg hC hcs hfs hfr hdep
                    match i, hm, ho, h0, hf, hg, hfr, hdep with
                    | 0, hm, _, _, _, _, _, _ => exact absurd hm (by decide)
                    | 1, hm, _, _, _, _, _, _ => exact absurd hm (by decide)
                    | 2, hm, _, _, _, _, _, _ => exact absurd hm (by decide)
                    | 3, hm, _, _, _, _, _, _ => exact absurd hm (by decide)
                    | 4, hm, _, _, _, _, _, _ => exact absurd hm (by decide)
                    | 5, hm, _, _, _, _, _, _ => exact absurd hm (by decide)
                    | 6, hm, _, _, _, _, _, _ => exact absurd hm (by decide)
                    | 7, hm, _, _, _, _, _, _ => exact absurd hm (by decide)
                    | 8, hm, _, _, _, _, _, _ => exact absurd hm (by decide)
                    | 9, hm, _, _, _, _, _, _ => exact absurd hm (by decide)
                    | 10, hm, _, _, _, _, _, _ => exact absurd hm (by decide)
                    | 11, hm, _, _, _, _, _, _ => exact absurd hm (by decide)
                    | 12, _, ho, h0, hf, hg, hfr, hdep =>
                      simp only [gTA, gCZ, gCS, gSI] at ho
                      subst ho
                      have t0 : ρ (.tmp 99) = .slice d M.length cM := hdep 0 99 (by kernel_rfl) (by kernel_rfl)
                      have t1 : ElB (⟨(vn : Int), x, y⟩ : BK) w' (ρ (.tmp 110)) := hdep 11 110 (by kernel_rfl) (by kernel_rfl) h0
                      refine ⟨rfl, mark_appB (.tmp 99) (.tmp 110) rfl t0 CM.out (hC.1 h0) t1 (by omega) hQr ?_⟩
                      intro u9 d9 c9 hG hB9
                      refine ⟨⟨fun e => absurd e (by rw [doneAt_eq]; decide), BW.out.trans hB9⟩, fun _ => ⟨doneAt_eq _ _, d9, c9, by rw [List.length_append]; rfl, hG⟩, ?_⟩
                      intro i t hi hs
                      match i, hi, hs with
                      | 0, _, hs => exact hs
                      | 1, _, hs => exact hs
                      | 2, _, hs => exact hs
                      | 3, _, hs => exact hs
                      | 4, _, hs => exact hs
                      | 5, _, hs => exact hs
                      | 6, _, hs => exact hs
                      | 7, _, hs => exact hs
                      | 8, _, hs => exact hs
                      | 9, _, hs => exact hs
                      | 10, _, hs => exact hs
                      | 11, _, hs => exact fun e => absurd e (by rw [doneAt_eq]; decide)
                      | 12, _, hs => exact absurd hs.1 (by rw [h0]; decide)
                      | 13, _, hs => exact absurd hs.1 (by rw [h0]; decide)
                      | _ + 14, _, _ => trivial
                    | 13, hm, _, _, _, _, _, _ => exact absurd hm (by decide)
                    | n + 14, _, ho, _, _, _, _, _ => simp at ho
                  · intro U2 W9 hC9 hS
                    obtain ⟨-, d2, c2, e13, D2⟩ : true = true ∧ SlB Q2 (M ++ [(⟨(vn : Int), x, y⟩ : BK)]) W9 (U2 13) := hS 13 (by decide) (by intro h; cases h)
                    simp only [puts, e13]
                    simp only [Act.put, List.setIfInBounds_toArray, List.set_cons_zero, List.set_cons_succ]
                    clear hS e13
                    have D2' := hiddenN D2
                    have B2 := hiddenN hC9.2
                    rw [← WS.out] at D2'
                    clear D2 hC9
                    go_wp2
                    go_roundg (N - (vn + 1))
                    case measure => omega
                    case rel => exact ⟨vn + 1, c2, d2, by omega, rfl, by go_num, by rw [WS.out], D2'.out, B2.out⟩
                · have WS := hiddenN (blkU_no (n := n) (T := T1) hl)
                  have hdl : decide (nth F1 vn < nth R vn) = false := decide_eq_false hl
                  generalize nth F1 vn = x at *
                  generalize nth R vn = ry at *
                  go_upto_region 27 with fail
                  go_quiet (fail)
                  have b8 := drewB (Below.refl wr.heap.size wr) nq
                  have CM8 := hiddenN (CM.out.later b8)
                  have BW8 := hiddenN (BW.out.trans (b8.mono hQr2))
                  clear b8
                  go_wp2
                  go_roundg (N - (vn + 1))
                  case measure => omega
                  case rel => exact ⟨vn + 1, cM, d, by omega, rfl, by go_num, by rw [WS.out], by rw [WS.out]; exact CM8.out, BW8.out⟩
              · have ek : vn = N := by omega
                subst ek
                have YW := hiddenN (Y6.out.keep (BW.out.block (nb + 1) (by omega)))
                have CZ := hiddenN ((C1.out.keep fun y hy => BW.out.block _ (by have := (C1.out.lt y hy).2; have := HQ2.out; omega)).mono hnbQ)
                have CZN : Hid (∀ y, dZ = some y → y.block ≠ nb + 1) := fun y hy => by have := (C1.out.lt y hy).1; omega
                have CMm := hiddenN (CM.out.mono (show nb ≤ Q2 by omega))
                have CMN : Hid (∀ y, d = some y → y.block ≠ nb + 1) := fun y hy => by have := (CM.out.lt y hy).1; omega
                have z0 := YW.out.cell (k := 0) rfl; have z1 := YW.out.cell (k := 1) rfl; simp only [List.getElem_toArray, List.getElem_cons_zero, List.getElem_cons_succ] at z0 z1; have f0 := YW.out.frozen 0; have f1 := YW.out.frozen 1
                by_cases hb : bloU n R P = []
                · obtain ⟨v1, v2⟩ := VL.out hb
                  have V1 := hiddenN v1
                  have V2 := hiddenN v2
                  rw [HBl.out] at hb
                  clear v1 v2 VL VS
                  have h0 : (blkU n R T1 F1 vn).length = 0 := by rw [hb]; rfl
                  rw [h0]
                  have BU := hiddenN ((But.set wr (nb + 1) 0 (.slice dZ Z.length cZ)).trans (But.set _ (nb + 1) 1 (.slice none 0 0)))
                  go_wp2
                  refine bodyPost_ret (v := .tuple #[.agg #[.slice dZ Z.length cZ, .slice none 0 0], .int .i64 0]) (by simp [results, Try.results6, go_sem, z0, z1]) rfl ?_
                  exact GOAL.out 0 dZ Z.length cZ none 0 0 _ HE.out (by rw [V1.out, HZ1.out]) (by rw [V2.out]; rfl) (by rw [V1.out, HZ1.out]; exact CZ.out.keep (fun x hx => BU.out.block _ (CZ.out.lt x hx).2 (CZN.out x hx))) (by rw [V2.out]; exact CapB.nil _ _) ((LW.out.setCell (by show nb ≤ nb + 1; omega) _).setCell (by show nb ≤ nb + 1; omega) _)
                · obtain ⟨v1, v2⟩ := VS.out hb
                  have V1 := hiddenN v1
                  have V2 := hiddenN v2
                  rw [HBl.out] at hb V2
                  have hpos : 0 < (blkU n R T1 F1 vn).length := List.length_pos_iff.2 hb
                  have hble := blkU_len n R T1 F1 vn
                  clear v1 v2 VL VS hb
                  generalize blkU n R T1 F1 vn = QB at *
                  generalize hql : QB.length = ql at *
                  have hposI : (ql : Int) > 0 := by omega
                  have BU := hiddenN ((But.set wr (nb + 1) 0 (.slice none 0 0)).trans (But.set _ (nb + 1) 1 (.slice d ql cM)))
                  go_wp2
                  refine bodyPost_ret (v := .tuple #[.agg #[.slice none 0 0, .slice d ql cM], .int .i64 0]) (by simp [results, Try.results6, go_sem, z0, z1]) rfl ?_
                  exact GOAL.out 0 none 0 0 d ql cM _ HE.out (by rw [V1.out]; rfl) (by rw [V2.out, hql]) (by rw [V1.out]; exact CapR.nil _ _) (by rw [V2.out]; exact CMm.out.keep (fun x hx => BU.out.block _ (CMm.out.lt x hx).2 (CMN.out x hx))) ((LW.out.setCell (by show nb ≤ nb + 1; omega) _).setCell (by show nb ≤ nb + 1; omega) _)
          | some v0 =>
            have hnb := (go_parts (nex_some hnx).1).2
            have hn0 := node_in (may_node hnb)
            obtain ⟨v, rfl⟩ : ∃ v : Nat, v0 = (v : Int) := ⟨v0.toNat, by omega⟩
            have hx' : x = (v : Int) := by rw [hx, hnx]; rfl
            subst hx'
            obtain ⟨f2, rfl, hvN, hL0, hL1, hmay, hM2⟩ := M1.out.step HS.out HRn.out hLL hnx
            have M2 := hiddenN hM2
            have I2 := hiddenN (fire_inv HS.out I1.out (may_node hmay))
            clear hM2 hnx hx hnb hn0
            have hZl : Z.length ≤ 4096 := by have := M1.out.len; omega
            have hge : (v : Int) ≥ 0 := by omega
            have XW := hiddenN (X5.out.keep (K1.out sb hsQ (by omega)))
            have y0 := XW.out.cell (k := 0) rfl
            have y1 := XW.out.cell (k := 1) rfl
            have y2 := XW.out.cell (k := 2) rfl
            simp only [List.getElem_toArray, List.getElem_cons_zero, List.getElem_cons_succ] at y0 y1 y2
            have ba := (Below.refl wC.heap.size wC).alloc (Nat.le_refl _) (.cells #[.int .i64 (v : Int)] 3)
            have FI : Hid (Calls Try.prog 17 #[.agg #[.int .i64 n.nodes, .slice a n.arcs.length c, .slice (some ⟨g, 0, none⟩) N N], .slice (some ⟨wC.heap.size, 0, none⟩) 1 1] (wC.alloc (.cells #[.int .i64 (v : Int)] 3)) fun e w' => e = .returned (.int .i64 1) ∧ DocS W3.heap.size w' n a g N (bumpF F1 (v : Int)) ∧ But g (wC.alloc (.cells #[.int .i64 (v : Int)] 3)) w') := by
              have := rfire10_any (wC.alloc (.cells #[.int .i64 (v : Int)] 3)) n a c g N T1 F1 (D1.out.below ba) I1.out (some ⟨wC.heap.size, 0, none⟩) 1 [(v : Int)] (at_alloc1 wC (v : Int)) (by simp) (fun y hy _ => by cases hy; show wC.heap.size ≠ g; omega)
              rw [fires_one, if_pos hmay] at this
              exact this
            have C2 := hiddenN (C1.out.later ba)
            have B2 := hiddenN (B1.out.trans (ba.mono (by omega)))
            have K2 : Hid (∀ k, k < Q → k ≠ g → (wC.alloc (.cells #[.int .i64 (v : Int)] 3)).heap[k]? = W5.heap[k]?) := fun k hk hn => (ba.block k (by omega)).trans (K1.out k hk hn)
            have hQ2 : Q ≤ (wC.alloc (.cells #[.int .i64 (v : Int)] 3)).heap.size := Nat.le_trans hQr ba.size
            clear ba hmay
            go_upto_region 22 with (go_at_call 17; (with_reducible refine FI.out.mono ?_); rintro e w3 ⟨rfl, s3, m3⟩; have D3 := hiddenN s3; have C3 := hiddenN (C2.out.keep fun y hy => m3.block _ (C2.out.lt y hy).2 (by have := (C2.out.lt y hy).1; omega)); have B3 := hiddenN (B2.out.trans (m3.below (by omega) (by omega))); have K3 : Hid (∀ k, k < Q → k ≠ g → w3.heap[k]? = W5.heap[k]?) := (fun k hk hn => (m3.block k (by omega) hn).trans (K2.out k hk hn)); have hQ3 := Nat.le_trans hQ2 m3.size; clear s3 m3)
            clear FI D1 I1 C1 C2 B1 B2 K1 K2 hQ2 hQr y0 y1 y2 XW
            have ba := (Below.refl w3.heap.size w3).alloc (Nat.le_refl _) (.cells #[.int .i64 (v : Int)] 3)
            have C5 := hiddenN (C3.out.later ba)
            have B5 := hiddenN (B3.out.trans (ba.mono (by omega)))
            have A5 := hiddenN (at_alloc1 w3 (v : Int))
            have D6a := hiddenN (D3.out.below ba)
            have K5 : Hid (∀ k, k < Q → k ≠ g → (w3.alloc (.cells #[.int .i64 (v : Int)] 3)).heap[k]? = W5.heap[k]?) := fun k hk hn => (ba.block k (by omega)).trans (K3.out k hk hn)
            have hQ5' : Q ≤ (w3.alloc (.cells #[.int .i64 (v : Int)] 3)).heap.size := Nat.le_trans hQ3 ba.size
            clear ba
            go_wp2_with (first
              | (at_builtin; refine wpList_appI rfl _ _ rfl Q dZ cZ Z rfl C5.out (some ⟨w3.heap.size, 0, none⟩) 1 [(v : Int)] rfl (fun e => by cases e) A5.out (by simp; omega) hQ5' (Z.length + 1) (Z ++ [(v : Int)]) rfl rfl ?_; intro d6 c6 w6 hd6 b6; have C6 := hiddenN hd6; have B6 := hiddenN (B5.out.trans (b6.mono hnbQ)); have D6 : Hid (DocS W3.heap.size w6 n a g N (bumpF F1 (v : Int))) := ⟨(LA.out w6 B6.out).1, D6a.out.fir.keep (fun y hy => by cases hy; exact b6.block g (by omega)), D6a.out.lF, D6a.out.nodes, D6a.out.sound, D6a.out.far, D6a.out.inr⟩; have K6 : Hid (∀ k, k < Q → k ≠ g → w6.heap[k]? = W5.heap[k]?) := (fun k hk hn => (b6.block k hk).trans (K5.out k hk hn)); have hQ6 := Nat.le_trans hQ5' b6.size; clear hd6 b6; have XW := hiddenN (X5.out.keep (K6.out sb hsQ (by omega))); have y0 := XW.out.cell (k := 0) rfl; have y1 := XW.out.cell (k := 1) rfl; have y2 := XW.out.cell (k := 2) rfl; simp only [List.getElem_toArray, List.getElem_cons_zero, List.getElem_cons_succ] at y0 y1 y2; have N6 := hiddenN (NXa.out w6 _ _ D6.out I2.out B6.out (O5.out.at.keep fun x hx => K6.out _ (hOQ x hx) (hO3 x hx))))
              | (go_at_call 16; (with_reducible refine N6.out.mono ?_); rintro e w7 ⟨rfl, b7⟩; have D7 := hiddenN (D6.out.below b7); have C7 := hiddenN (C6.out.later b7); have B7 := hiddenN (B6.out.trans (b7.mono (by omega))); have K7 : Hid (∀ k, k < Q → k ≠ g → w7.heap[k]? = W5.heap[k]?) := (fun k hk hn => (b7.block k (by omega)).trans (K6.out k hk hn)); have hQ7 := Nat.le_trans hQ6 b7.size; clear b7))
            go_roundg f2
            case measure => omega
            case rel => exact ⟨Z ++ [(v : Int)], _, _, _, d6, c6, m1 + 1, _, by simp, rfl, rfl, D7.out, I2.out, by rw [List.length_set]; exact hLL, C7.out, B7.out, hQ7, K7.out, M2.out⟩
  · have V1 : Hid (lisU n R P = []) := by show _ = _; unfold lisU; rw [if_neg he]
    have V2 : Hid (stkU n R P = []) := by show _ = _; unfold stkU; rw [if_neg he]
    have hne : (errU n R P != 0) = true := by simpa using he
    clear he
    generalize hx : errU n R P = x at CK hne
    go_enter Try.func6, Try.ntmps6
    go_upto_region 1 with fail
    generalize (w.alloc (.cells #[.int .i64 n.nodes, .slice a n.arcs.length c] 24)).alloc (.cells #[.slice none 0 0, .slice none 0 0] 29) = W0 at *
    rw [HNB.out]
    have hw0 : nb ≤ W0.heap.size := by have := L0.out.size; have := HNB.out; omega
    have y0 := XN.out.cell (k := 0) rfl
    have y1 := XN.out.cell (k := 1) rfl
    simp only [List.getElem_toArray, List.getElem_cons_zero, List.getElem_cons_succ] at y0 y1
    have HX := hiddenN hx
    clear hx
    go_wp2_with (go_at_call 13; (with_reducible refine CK.out.mono ?_); rintro e W1 ⟨rfl, b1⟩; have B1 := hiddenN b1; have Y4 := hiddenN (XB.out.below b1); have L4 := hiddenN (L0.out.trans (b1.mono hw0)); have z0 := Y4.out.cell (k := 0) rfl; have z1 := Y4.out.cell (k := 1) rfl; simp only [List.getElem_toArray, List.getElem_cons_zero, List.getElem_cons_succ] at z0 z1; have f0 := Y4.out.frozen 0; have f1 := Y4.out.frozen 1; clear b1)
    refine bodyPost_ret (v := .tuple #[.agg #[.slice none 0 0, .slice none 0 0], .int .i64 x]) (by simp [results, Try.results6, go_sem, z0, z1]) rfl ?_
    exact GOAL.out x none 0 0 none 0 0 _ HX.out (by rw [V1.out]; rfl) (by rw [V2.out]; rfl) (by rw [V1.out]; exact CapR.nil _ _) (by rw [V2.out]; exact CapB.nil _ _) ((L4.out.setCell (by show nb ≤ nb + 1; omega) _).setCell (by show nb ≤ nb + 1; omega) _)
def threeU {α : Type} (x y z : α) (j : Nat) : α := match j with | 0 => x | 1 => y | _ => z
theorem threeU_cases {p : Nat → Prop} (h0 : p 0) (h1 : p 1) (h2 : p 2) : ∀ j, j < 3 → p j
  | 0, _ => h0
  | 1, _ => h1
  | 2, _ => h2
theorem table_run {B : Nat} {w : World} {a b c : Option Addr} {n1 n2 n3 l1 l2 l3 : Nat} {P Q R : List Int} (hP : P.length = l1) (hQ : Q.length = l2) (hR : R.length = l3) (hP8 : l1 * 8 ≤ 140737488351232) (hQ8 : l2 * 8 ≤ 140737488351232) (hR8 : l3 * 8 ≤ 140737488351232) (ha : CapR B w a n1 P) (hb : CapR B w b n2 Q) (hc : CapR B w c n3 R) (hlow : B ≤ w.heap.size)
    (hab : ∀ x y, a = some x → b = some y → x.block ≠ y.block) (hac : ∀ x y, a = some x → c = some y → x.block ≠ y.block) (hbc : ∀ x y, b = some x → c = some y → x.block ≠ y.block) :
    Table B (w.alloc (.cells #[.slice a l1 n1, .slice b l2 n2, .slice c l3 n3] 25)) w.heap.size 3 (threeU a b c) (threeU l1 l2 l3) (threeU n1 n2 n3) (threeU P Q R) := by
  have bel : Below w.heap.size w (w.alloc (.cells #[.slice a l1 n1, .slice b l2 n2, .slice c l3 n3] 25)) := (Below.refl _ _).alloc (Nat.le_refl _) _
  have lt : ∀ j, j < 3 → ∀ x, threeU a b c j = some x → x.block < w.heap.size := threeU_cases (fun x hx => (ha.lt x hx).2) (fun x hx => (hb.lt x hx).2) (fun x hx => (hc.lt x hx).2)
  refine ⟨threeU_cases ⟨ha.later bel, hP⟩ ⟨hb.later bel, hQ⟩ ⟨hc.later bel, hR⟩, threeU_cases (by simp [threeU]) (by simp [threeU]) (by simp [threeU]), ?_, fun j x hj hx => ?_, by simp, by simp; omega, by decide, threeU_cases hP8 hQ8 hR8⟩
  · intro j k x y hj hk hjk hx hy
    match j, k, hj, hk, hjk, hx, hy with
    | 0, 0, _, _, h, _, _ => exact absurd rfl h
    | 0, 1, _, _, _, hx, hy => exact hab x y hx hy
    | 0, 2, _, _, _, hx, hy => exact hac x y hx hy
    | 1, 0, _, _, _, hx, hy => exact fun e => hab y x hy hx e.symm
    | 1, 1, _, _, h, _, _ => exact absurd rfl h
    | 1, 2, _, _, _, hx, hy => exact hbc x y hx hy
    | 2, 0, _, _, _, hx, hy => exact fun e => hac y x hy hx e.symm
    | 2, 1, _, _, _, hx, hy => exact fun e => hbc y x hy hx e.symm
    | 2, 2, _, _, h, _, _ => exact absurd rfl h
  · have := lt j hj x hx
    omega
set_option maxRecDepth 100000 in
set_option maxHeartbeats 4000000 in
theorem rsame15_any (w : World) (Z : List Int) (B : List BK) (d1 d2 d3 d4 : Option Addr) (l m c1 c2 c3 c4 : Nat) (hZ : Z.length = l) (hB : B.length = m) (hl : l ≤ 4611686018427387904) (hm : m ≤ 4611686018427387904) (h1 : At w d1 Z) (h2 : AtK w d2 B) (h3 : At w d3 Z) (h4 : AtK w d4 B) :
    Calls Try.prog 9 #[.agg #[.slice d1 l c1, .slice d2 m c2], .agg #[.slice d3 l c3, .slice d4 m c4]] w fun e w' => e = .returned (.bool true) ∧ Below w.heap.size w w' := by
  have b0 := (Below.refl w.heap.size w).alloc (Nat.le_refl _) (.cells #[.slice d1 l c1, .slice d2 m c2] 29)
  have b1 := (Below.refl (w.alloc (.cells #[.slice d1 l c1, .slice d2 m c2] 29)).heap.size (w.alloc (.cells #[.slice d1 l c1, .slice d2 m c2] 29))).alloc (Nat.le_refl _) (.cells #[.slice d3 l c3, .slice d4 m c4] 29)
  have hs0 : (w.alloc (.cells #[.slice d1 l c1, .slice d2 m c2] 29)).heap.size = w.heap.size + 1 := World.size_alloc _ _
  have b2 := b0.trans (b1.mono b0.size)
  have X1 := hiddenN ((blkA_new 29 w #[.slice d1 l c1, .slice d2 m c2]).below b1)
  have X2 := hiddenN (blkA_new 29 (w.alloc (.cells #[.slice d1 l c1, .slice d2 m c2] 29)) #[.slice d3 l c3, .slice d4 m c4])
  rw [hs0] at X2
  have L0 := hiddenN b2
  have SI := hiddenN (sameN _ d1 d3 Z c1 c3 (by rw [hZ]; exact hl) (h1.below b2) (h3.below b2))
  rw [hZ] at SI
  have SK := hiddenN (fun (U : World) (hU : Below w.heap.size w U) => sameK_any B d2 d4 m c2 c4 U hB (h2.below hU) (h4.below hU) hm)
  clear b0 b1 b2 hs0 h1 h2 h3 h4
  go_enter Try.func9, Try.ntmps9
  go_upto_region 1 with fail
  generalize (w.alloc (.cells #[.slice d1 l c1, .slice d2 m c2] 29)).alloc (.cells #[.slice d3 l c3, .slice d4 m c4] 29) = W0 at *
  obtain ⟨nb, hnb⟩ : ∃ q, w.heap.size = q := ⟨_, rfl⟩
  have HNB := hiddenN hnb
  rw [hnb] at X1 X2 ⊢
  clear hnb
  have x0 := X1.out.cell (k := 0) rfl
  have y0 := X2.out.cell (k := 0) rfl
  simp only [List.getElem_toArray, List.getElem_cons_zero] at x0 y0
  go_wp2_with (first
    | (go_at_call 23; (with_reducible refine SI.out.mono ?_); rintro e W1 ⟨rfl, b1⟩; have L1 := hiddenN (L0.out.trans (b1.mono L0.out.size)); have x1 := (X1.out.below b1).cell (k := 1) rfl; have y1 := (X2.out.below b1).cell (k := 1) rfl; simp only [List.getElem_toArray, List.getElem_cons_zero, List.getElem_cons_succ] at x1 y1; clear b1)
    | (go_at_call 24; (with_reducible refine (SK.out W1 L1.out).mono ?_); rintro e W2 ⟨rfl, b2⟩; have L2 := hiddenN (L1.out.trans (b2.mono L1.out.size)); clear b2))
  go_ret
  exact ⟨by first | rfl | simp, L2.out⟩
set_option maxRecDepth 100000 in
set_option maxHeartbeats 16000000 in
theorem simulRuns_walk (n : NN) (a : Option Addr) (c : Nat) (a1 : Option Addr) (len1 cap1 : Nat) (R : List Int) (a2 : Option Addr) (len2 cap2 : Nat) (P : List Int) (w : World) (h : ArgN w a c n) (h1 : Arg w a1 len1 cap1 R) (h2 : Arg w a2 len2 cap2 P) : Calls Try.prog 3 #[.agg #[.int .i64 n.nodes, .slice a n.arcs.length c], .slice a1 len1 cap1, .slice a2 len2 cap2] w fun e w' => e = .returned (.bool true) ∧ Below w.heap.size w w' := by
  have LT1 := hiddenN (fun (U : World) (hU : Below w.heap.size w U) => lent_full a1 R len1 cap1 U (h1.below hU))
  have LT2 := hiddenN (fun (U : World) (hU : Below w.heap.size w U) => lent_full a2 P len2 cap2 U (h2.below hU))
  have KT1 := hiddenN (fun (U : World) (hU : Below w.heap.size w U) (base g : Nat) (q : Lend base U g len1 R) => kept_any g a1 R len1 cap1 base U q (h1.below hU))
  have KT2 := hiddenN (fun (U : World) (hU : Below w.heap.size w U) (base g : Nat) (q : Lend base U g len2 P) => kept_any g a2 P len2 cap2 base U q (h2.below hU))
  have hre1 := h1.reach
  have hre2 := h2.reach
  have HS1 := hiddenN h1.size
  have HS2 := hiddenN h2.size
  have hroom : n.arcs.length ≤ 4611686018427387904 := by have := h.room; omega
  have RR : Hid (∀ U, Below w.heap.size w U → Calls Try.prog 6 #[.agg #[.int .i64 n.nodes, .slice a n.arcs.length c], .slice a1 len1 cap1, .slice a2 len2 cap2] U (RunE n R P U)) := fun U hU => by
    have := rrun15_any n a c R a1 cap1 P a2 cap2 U (h.lies.below hU) hroom (h1.lies.below hU) (by rw [h1.size]; omega) (h2.lies.below hU) (by rw [h2.size]; omega)
    rw [h1.size, h2.size] at this
    exact this
  have SR : Hid (∀ U g1 g2, Below w.heap.size w U → At U (some ⟨g1, 0, none⟩) R → At U (some ⟨g2, 0, none⟩) P → Calls Try.prog 7 #[.agg #[.int .i64 n.nodes, .slice a n.arcs.length c], .slice (some ⟨g1, 0, none⟩) len1 (len1 + 4), .slice (some ⟨g2, 0, none⟩) len2 (len2 + 4)] U (RunE n R P U)) := fun U g1 g2 hU q1 q2 => by
    have := simRun_any n a c R (some ⟨g1, 0, none⟩) (len1 + 4) P (some ⟨g2, 0, none⟩) (len2 + 4) U (h.lies.below hU) hroom h.none q1 (by rw [h1.size]; omega) (fun e => by cases e) q2 (by rw [h2.size]; omega)
    rw [h1.size, h2.size] at this
    exact this
  unfold RunE at RR SR
  have AW := hiddenN awake15
  have b0 := (Below.refl w.heap.size w).alloc (Nat.le_refl _) (.cells #[.int .i64 n.nodes, .slice a n.arcs.length c] 24)
  have X0 := hiddenN (blkA_new 24 w #[.int .i64 n.nodes, .slice a n.arcs.length c])
  have B0 := hiddenN b0
  have HLE : Hid ((lisU n R P).length ≤ 2048 ∧ (stkU n R P).length ≤ 32) := by
    unfold lisU stkU
    by_cases he : errU n R P = 0
    · have hf := fin_of he
      have hnn := nodes_nat hf.sound
      have e1 := hf.sum
      have e2 := sum_le (F := (finU n R P).2.2) (R := R) (by rw [hf.eq.lF, hf.good.len]) (fun k hk => hf.top k (by rw [← hf.eq.lF]; exact hk))
      have e3 := hf.few
      have e4 : (bloU n R P).length ≤ 32 := by unfold bloU; exact Nat.le_trans (blkU_len ..) (by omega)
      rw [if_pos he, if_pos he]
      refine ⟨?_, e4⟩
      split
      · omega
      · simp
    · rw [if_neg he, if_neg he]; exact ⟨by simp, by simp⟩
  clear b0 h h1 h2
  generalize hLL : lisU n R P = LL at *
  generalize hBL : stkU n R P = BL at *
  generalize hl : LL.length = l at *
  generalize hm : BL.length = m at *
  generalize errU n R P = x at *
  have SM := hiddenN (fun (U : World) (d1 d2 d3 d4 : Option Addr) (c1 c2 c3 c4 : Nat) (q1 : At U d1 LL) (q2 : AtK U d2 BL) (q3 : At U d3 LL) (q4 : AtK U d4 BL) => rsame15_any U LL BL d1 d2 d3 d4 l m c1 c2 c3 c4 hl hm (by have := HLE.out; omega) (by have := HLE.out; omega) q1 q2 q3 q4)
  have HLl := hiddenN hl
  clear hLL hBL hl hm
  have hxx : (x != x) = false := by simp
  go_enter Try.func3, Try.ntmps3
  go_upto_region 1 with fail
  generalize (w.alloc (.cells #[.int .i64 n.nodes, .slice a n.arcs.length c] 24)) = W0 at *
  go_upto_region 2 with (go_at_call 5; (with_reducible refine (LT1.out W0 B0.out).mono ?_); rintro e W1 ⟨g1, rfl, q1, b1, q2⟩; have D1 := hiddenN q1; have O1 : Hid (CapR W0.heap.size W1 (some ⟨g1, 0, none⟩) (len1 + 4) R) := (by show CapR _ _ _ _ _; unfold CapR; rw [HS1.out]; exact q2); have L1 := hiddenN (B0.out.trans (b1.mono B0.out.size)); have N1 := hiddenN (X0.out.below b1); clear q1 q2 b1)
  have hg1 : W0.heap.size ≤ g1 ∧ g1 < W1.heap.size := O1.out.lt _ rfl
  go_upto_region 3 with (go_at_call 5; (with_reducible refine (LT2.out W1 L1.out).mono ?_); rintro e W2 ⟨g2, rfl, q1, b2, q2⟩; have E2 := hiddenN q1; have P2 : Hid (CapR W1.heap.size W2 (some ⟨g2, 0, none⟩) (len2 + 4) P) := (by show CapR _ _ _ _ _; unfold CapR; rw [HS2.out]; exact q2); have L2 := hiddenN (L1.out.trans (b2.mono L1.out.size)); have N2 := hiddenN (N1.out.below b2); have D2 := hiddenN (D1.out.below b2); have O2 := hiddenN (O1.out.later b2); have hs2 := b2.size; clear q1 q2 b2)
  have hg2 : W1.heap.size ≤ g2 ∧ g2 < W2.heap.size := P2.out.lt _ rfl
  have hw0 := B0.out.size
  clear LT1 LT2 D1 O1 N1 X0 B0
  have y0 := N2.out.cell (k := 0) rfl
  have y1 := N2.out.cell (k := 1) rfl
  simp only [List.getElem_toArray, List.getElem_cons_zero, List.getElem_cons_succ] at y0 y1
  go_upto_region 4 with (go_at_call 6; (with_reducible refine (RR.out W2 L2.out).mono ?_); rintro e W3 ⟨d1, c1, d2, c2, rfl, q1, q2, b3⟩; have R3 := hiddenN q1.at; have S3 := hiddenN q2.at; have L3 := hiddenN (L2.out.trans (b3.mono L2.out.size)); have N3 := hiddenN (N2.out.below b3); have D3 := hiddenN (D2.out.below b3); have E3 := hiddenN (E2.out.below b3); have O3 := hiddenN (O2.out.later b3); have P3 := hiddenN (P2.out.later b3); have hs3 := b3.size; clear q1 q2 b3)
  have b4 := (Below.refl W3.heap.size W3).alloc (Nat.le_refl _) (.cells #[.slice d1 l c1, .slice d2 m c2] 29)
  have X4 := hiddenN (blkA_new 29 W3 #[.slice d1 l c1, .slice d2 m c2])
  have L4 := hiddenN (L3.out.trans (b4.mono L3.out.size))
  have N4 := hiddenN (N3.out.below b4)
  have R4 := hiddenN (R3.out.below b4)
  have S4 := hiddenN (S3.out.below b4)
  have D4 := hiddenN (D3.out.below b4)
  have E4 := hiddenN (E3.out.below b4)
  have O4 := hiddenN (O3.out.later b4)
  have P4 := hiddenN (P3.out.later b4)
  have hs4 := b4.size
  obtain ⟨xa, hxa⟩ : ∃ q, W3.heap.size = q := ⟨_, rfl⟩
  rw [hxa] at X4 ⊢
  clear b4 y0 y1 RR D2 E2 O2 P2 N2 L2 R3 S3 L3 N3 D3 E3 O3 P3
  generalize W3.alloc (.cells #[.slice d1 l c1, .slice d2 m c2] 29) = W4 at *
  have y0 := N4.out.cell (k := 0) rfl
  have y1 := N4.out.cell (k := 1) rfl
  simp only [List.getElem_toArray, List.getElem_cons_zero, List.getElem_cons_succ] at y0 y1
  go_upto_region 5 with (go_at_call 7; (with_reducible refine (SR.out W4 g1 g2 L4.out D4.out.at E4.out.at).mono ?_); rintro e W5 ⟨d3, c3, d4, c4, rfl, q1, q2, b5⟩; have Z5 := hiddenN q1; have S5 := hiddenN q2.at; have L5 := hiddenN (L4.out.trans (b5.mono L4.out.size)); have R5 := hiddenN (R4.out.below b5); have T5 := hiddenN (S4.out.below b5); have D5 := hiddenN (D4.out.below b5); have E5 := hiddenN (E4.out.below b5); have O5 := hiddenN (O4.out.later b5); have P5 := hiddenN (P4.out.later b5); have X5 := hiddenN (X4.out.below b5); have hs5 := b5.size; clear q1 q2 b5)
  have b6 := (Below.refl W5.heap.size W5).alloc (Nat.le_refl _) (.cells #[.slice d3 l c3, .slice d4 m c4] 29)
  have Y6 := hiddenN (blkA_new 29 W5 #[.slice d3 l c3, .slice d4 m c4])
  have hZ5 : ∀ y, d3 = some y → W4.heap.size ≤ y.block := fun y hy => (Z5.out.lt y hy).1
  have L6 := hiddenN (L5.out.trans (b6.mono L5.out.size))
  have X6 := hiddenN (X5.out.below b6)
  have Z6 := hiddenN (Z5.out.later b6)
  have S6 := hiddenN (S5.out.below b6)
  have R6 := hiddenN (R5.out.below b6)
  have T6 := hiddenN (T5.out.below b6)
  have D6 := hiddenN (D5.out.below b6)
  have E6 := hiddenN (E5.out.below b6)
  have O6 := hiddenN (O5.out.later b6)
  have P6 := hiddenN (P5.out.later b6)
  obtain ⟨xc, hxc⟩ : ∃ q, W5.heap.size = q := ⟨_, rfl⟩
  rw [hxc] at Y6 ⊢
  clear b6 y0 y1 SR D4 E4 O4 P4 N4 L4 X4 R4 S4 Z5 S5 L5 R5 T5 D5 E5 O5 P5 X5 hxc
  generalize W5.alloc (.cells #[.slice d3 l c3, .slice d4 m c4] 29) = W6 at *
  have k1 := KT1.out W6 L6.out W0.heap.size g1 D6.out
  have K1 := hiddenN k1
  clear k1
  go_upto_region 6 with (go_at_call 8; (with_reducible refine K1.out.mono ?_); rintro e W7 ⟨nq, rfl, hW7⟩; have b7 : Below W6.heap.size W6 W7 := (by rw [hW7]; exact drewB (Below.refl _ _) nq); have B7 := hiddenN b7; clear b7 hW7)
  have L7 := hiddenN (L6.out.trans (B7.out.mono L6.out.size))
  have K2 := hiddenN (KT2.out W7 L7.out W1.heap.size g2 (E6.out.below B7.out))
  go_upto_region 7 with (go_at_call 8; (with_reducible refine K2.out.mono ?_); rintro e W8 ⟨nq, rfl, hW8⟩; have b8 : Below W7.heap.size W7 W8 := (by rw [hW8]; exact drewB (Below.refl _ _) nq); have B8 := hiddenN (B7.out.trans (b8.mono B7.out.size)); clear b8 hW8)
  clear K1 K2 KT1 KT2 D6 E6 B7 L7
  have L8 := hiddenN (L6.out.trans (B8.out.mono L6.out.size))
  have u0 := (X6.out.below B8.out).cell (k := 0) rfl
  have u1 := (X6.out.below B8.out).cell (k := 1) rfl
  have v0 := (Y6.out.below B8.out).cell (k := 0) rfl
  have v1 := (Y6.out.below B8.out).cell (k := 1) rfl
  simp only [List.getElem_toArray, List.getElem_cons_zero, List.getElem_cons_succ] at u0 u1 v0 v1
  have SMc := hiddenN (SM.out W8 d1 d2 d3 d4 c1 c2 c3 c4 (R6.out.below B8.out) (T6.out.below B8.out) (Z6.out.at.below B8.out) (S6.out.below B8.out))
  go_upto_region 9 with (go_at_call 9; (with_reducible refine SMc.out.mono ?_); rintro e W9 ⟨rfl, b9⟩; have B9 := hiddenN (B8.out.trans (b9.mono B8.out.size)); clear b9)
  have L9 := hiddenN (L6.out.trans (B9.out.mono L6.out.size))
  have v0 := (Y6.out.below B9.out).cell (k := 0) rfl
  simp only [List.getElem_toArray, List.getElem_cons_zero] at v0
  have TB := hiddenN (table_run (B := W0.heap.size) (w := W9) (a := d3) (b := some ⟨g1, 0, none⟩) (c := some ⟨g2, 0, none⟩) (n1 := c3) (n2 := len1 + 4) (n3 := len2 + 4) (l1 := l) (l2 := len1) (l3 := len2) HLl.out HS1.out HS2.out (by have := HLE.out; omega) hre1 hre2 ((Z6.out.later B9.out).mono (by omega)) (O6.out.later B9.out) ((P6.out.later B9.out).mono (by omega)) (by have := O6.out.lt _ rfl; have := B9.out.size; simp only at *; omega)
    (fun y z hy hz => by cases hz; have := hZ5 y hy; show y.block ≠ g1; omega) (fun y z hy hz => by cases hz; have := hZ5 y hy; show y.block ≠ g2; omega) (fun y z hy hz => by cases hy; cases hz; show g1 ≠ g2; omega))
  have AP := hiddenN (apart_keeps _ _ _ 3 _ _ _ _ _ TB.out)
  have hLT : w.heap.size ≤ W0.heap.size := hw0
  have ba := (Below.refl W9.heap.size W9).alloc (Nat.le_refl _) (.cells #[.slice d3 l c3, .slice (some ⟨g1, 0, none⟩) len1 (len1 + 4), .slice (some ⟨g2, 0, none⟩) len2 (len2 + 4)] 25)
  have LA := hiddenN (L9.out.trans (ba.mono L9.out.size))
  clear ba TB u0 u1 v1
  go_wp2_with (first
    | (go_at_call 10; (with_reducible refine AP.out.mono ?_); rintro e WA ⟨rfl, bA, -⟩; have LB := hiddenN (LA.out.trans (bA.mono hLT)); clear bA)
    | (go_at_call 11; (with_reducible refine (AW.out _).mono ?_); rintro e WC ⟨rfl, bw⟩; have LC := hiddenN (LB.out.trans (bw.mono LB.out.size)); clear bw))
  go_ret
  exact ⟨by first | rfl | simp, LC.out⟩
end Go.Proofs.Ytigodedloogbcaa
