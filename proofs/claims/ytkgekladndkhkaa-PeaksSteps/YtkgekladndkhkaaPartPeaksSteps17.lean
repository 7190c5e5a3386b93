/- Texts of one chain, laid one behind the other. -/
import Derived.Test.YtkgekladndkhkaaPartPeaksSteps16
namespace Go.Proofs.Ytkgekladndkhkaa
open Go.ChangeShapes Go.WideShapes Go.ChangeAt Go.RowKit
theorem nthLV_rows {n : NN} {zs T : List Int} {k : Nat} (h : k ≤ zs.length) : nthLV (rowsV n T zs) k = endV n T (zs.take k) := by
  unfold nthLV; rw [List.getD_eq_getElem?_getD, rows_get n zs T k h]; rfl
theorem end_fewV {n : NN} {zs : List Int} (hc : codeV n zs = 0) (k : Nat) : FewN n 1000000 (endV n (startT n) (zs.take k)) := by
  obtain ⟨h1, h2, h3⟩ := code_zero hc
  have hS := check_sound h1
  have hl : (zs.take k).length ≤ 2048 := Nat.le_trans (by rw [List.length_take]; omega) h2
  exact (end_few hS (zs.take k) (startT n) 256 (start_few hS rfl) (by omega) (err_take n zs _ k h3)).more (by omega)
theorem may_rows {n : NN} {zs : List Int} (hc : codeV n zs = 0) {k : Nat} (hk : k < zs.length) : mayN n (endV n (startT n) (zs.take k)) (nth zs k) = true := by
  obtain ⟨h1, h2, h3⟩ := code_zero hc
  have q := err_take n zs (startT n) (k + 1) h3
  rw [take_snoc hk, err_append, if_pos (err_take n zs _ k h3)] at q
  by_cases hv : nodeB n (nth zs k) = true
  · by_cases hm : mayN n (endV n (startT n) (zs.take k)) (nth zs k) = true
    · exact hm
    · rw [err_cons_may hv hm] at q; cases q
  · rw [err_cons_node hv] at q; cases q
/-- A copied list; a row of counts. -/
def InS (E : Nat) (u : World) (zs : List Int) (z : Value) : Prop := ∃ p pc, z = .slice p zs.length pc ∧ At u p zs ∧ ∀ x, p = some x → E ≤ x.block
theorem InS.later {E : Nat} {u u' : World} {zs : List Int} {z : Value} (h : InS E u zs z) (hb : Below u.heap.size u u') : InS E u' zs z := by
  obtain ⟨p, pc, k1, k2, k3⟩ := h
  exact ⟨p, pc, k1, k2.below hb, k3⟩
def CnS (N : Nat) (u : World) (T : List Int) (z : Value) : Prop := ∃ q qc, z = .slice q N qc ∧ At u q T
theorem CnS.later {N : Nat} {u u' : World} {T : List Int} {z : Value} (h : CnS N u T z) (hb : Below u.heap.size u u') : CnS N u' T z := by
  obtain ⟨p, pc, k1, k2⟩ := h
  exact ⟨p, pc, k1, k2.below hb⟩
/-- From row to row, on one arc. -/
theorem step_plain {n : NN} {zs : List Int} (hc : codeV n zs = 0) {k i : Nat} (hk : k < zs.length) (hi : i < n.arcs.length) :
    nth (nthLV (rowsV n (startT n) zs) (k + 1)) i = nth (nthLV (rowsV n (startT n) zs) k) i - (if (nthNa n.arcs i).t = nth zs k then (nthNa n.arcs i).k else 0) + (if (nthNa n.arcs i).f = nth zs k then (nthNa n.arcs i).g else 0) ∧ ((nthNa n.arcs i).t = nth zs k → (nthNa n.arcs i).k ≤ nth (nthLV (rowsV n (startT n) zs) k) i) ∧ (0 ≤ nth (nthLV (rowsV n (startT n) zs) k) i ∧ nth (nthLV (rowsV n (startT n) zs) k) i ≤ 1000000) := by
  have hS := check_sound (code_zero hc).1
  have hf := end_fewV hc k
  have hm := may_rows hc hk
  rw [nthLV_rows (by omega), nthLV_rows (by omega), take_snoc hk, end_snoc]
  exact ⟨fire_plain hS hf (by decide) hm hi, fun e => may_has hm hi e, hf.few i hi⟩
theorem row_few {n : NN} {zs : List Int} (hc : codeV n zs = 0) {k i : Nat} (hk : k ≤ zs.length) (hi : i < n.arcs.length) : 0 ≤ nth (nthLV (rowsV n (startT n) zs) k) i ∧ nth (nthLV (rowsV n (startT n) zs) k) i ≤ 1000000 := by
  rw [nthLV_rows hk]
  exact (end_fewV hc k).few i hi
set_option maxRecDepth 100000 in
set_option maxHeartbeats 16000000 in
theorem peaksSteps_walk (n : NN) (a : Option Addr) (c : Nat) (a1 : Option Addr) (len1 cap1 : Nat) (zs : List Int) (w : World) (h : ArgN w a c n) (h1 : Arg w a1 len1 cap1 zs) : Calls Try.prog 6 #[.agg #[.int .i64 n.nodes, .slice a n.arcs.length c], .slice a1 len1 cap1] w fun e w' => e = .returned (.bool true) ∧ Below w.heap.size w w' := by
  obtain rfl := h1.size
  have b0 := (Below.refl w.heap.size w).alloc (Nat.le_refl _) (.cells #[.int .i64 n.nodes, .slice a n.arcs.length c] 24)
  have G0 := hiddenN (blkA_new 24 w #[.int .i64 n.nodes, .slice a n.arcs.length c])
  have B0 := hiddenN b0
  have HA := hiddenN h
  have H1 := hiddenN h1
  have hroom : n.arcs.length ≤ 4611686018427387904 := by have := h.room; omega
  have hzl : zs.length ≤ 4611686018427387904 := by have := h1.reach; omega
  have LN : Hid (∀ U, Below w.heap.size w U → Calls Try.prog 9 #[.agg #[.int .i64 n.nodes, .slice a n.arcs.length c]] U (LentE n U)) := fun U hb => lentNet_any n a c U (HA.out.below hb)
  have AW : Hid (∀ U, Calls Try.prog 15 #[] U fun e w' => e = .returned (.bool true) ∧ Below U.heap.size U w') := fun U => awakeP U
  have z0 := G0.out.cell (k := 0) rfl
  have z1 := G0.out.cell (k := 1) rfl
  simp only [List.getElem_toArray, List.getElem_cons_zero, List.getElem_cons_succ] at z0 z1
  clear b0 h h1
  have IN : Hid (∀ U, Below w.heap.size w U → Calls Try.prog 23 #[.slice a1 zs.length cap1] U (CopiedC U zs.length zs)) := fun U hb => ints_own a1 zs zs.length cap1 U (H1.out.below hb)
  by_cases hc : codeV n zs = 0
  · have eS := check_sound (code_zero hc).1
    have hZ2 := (code_zero hc).2.1
    have hmost := eS.most
    have PN : Hid (∀ U x y cx cy, AtN U (some x) n.arcs → At U y zs → Calls Try.prog 11 #[.agg #[.int .i64 n.nodes, .slice (some x) n.arcs.length cx], .slice y zs.length cy] U fun e w' => ∃ b off rc, e = .returned (.tuple #[.slice (some ⟨b, off, none⟩) (zs.length + 1) rc, .int .i64 0]) ∧ (∀ k, k < zs.length + 1 → ∃ y yc, w'.cell? ⟨b, off + k, none⟩ = some (.slice y n.arcs.length yc) ∧ At w' y (nthLV (rowsV n (startT n) zs) k)) ∧ Below U.heap.size U w') := fun U x y cx cy q1 q2 => (along_any n (some x) cx U q1 hroom (fun e => by cases e) y cy zs q2 hzl).mono fun e w' hh => by
      rcases hh with ⟨-, B, v, e1, -, -, q1, q2⟩ | ⟨k1, -⟩
      · obtain ⟨x, rc, rfl, q3⟩ := q1.ls
        rw [rows_len] at e1
        rcases q3 with q3 | ⟨b, off, rfl, q3⟩
        · exact absurd q3 (rows_ne _ _ _)
        · refine ⟨b, off, rc, e1, fun k hk => ?_, q2⟩
          obtain ⟨y, yc, r1, r2⟩ := q3 k (by rw [rows_len]; exact hk)
          rw [row_lenV (by omega), start_len] at r1
          exact ⟨y, yc, r1, r2⟩
      · exact absurd hc k1
    have NY : Hid (∀ U x cx, AtN U (some x) n.arcs → Calls Try.prog 24 #[.agg #[.int .i64 n.nodes, .slice (some x) n.arcs.length cx]] U fun e w' => ∃ K E, e = .returned (.tuple #[.pointer (some ⟨K, 0, none⟩), .int .i64 0]) ∧ StE U.heap.size E w' K n (startT n) (List.replicate n.nodes.toNat 0) ∧ Below U.heap.size U w') := fun U x cx q => (newS_any n (some x) cx U q hroom (fun e => by cases e)).mono fun e w' hh => by
      unfold NewE at hh
      rw [if_pos (code_zero hc).1] at hh
      exact hh
    have FA := fires_all n zs (startT n) (List.replicate n.nodes.toNat 0) (code_zero hc).2.2
    have STP : Hid (∀ k i, k < zs.length → i < n.arcs.length → nth (nthLV (rowsV n (startT n) zs) (k + 1)) i = nth (nthLV (rowsV n (startT n) zs) k) i - (if (nthNa n.arcs i).t = nth zs k then (nthNa n.arcs i).k else 0) + (if (nthNa n.arcs i).f = nth zs k then (nthNa n.arcs i).g else 0) ∧ ((nthNa n.arcs i).t = nth zs k → (nthNa n.arcs i).k ≤ nth (nthLV (rowsV n (startT n) zs) k) i) ∧ (0 ≤ nth (nthLV (rowsV n (startT n) zs) k) i ∧ nth (nthLV (rowsV n (startT n) zs) k) i ≤ 1000000)) := fun k i hk hi => step_plain hc hk hi
    have FEW : Hid (∀ k i, k ≤ zs.length → i < n.arcs.length → 0 ≤ nth (nthLV (rowsV n (startT n) zs) k) i ∧ nth (nthLV (rowsV n (startT n) zs) k) i ≤ 1000000) := fun k i hk hi => row_few hc hk hi
    have R0 : Hid (∀ i, i < n.arcs.length → nth (nthLV (rowsV n (startT n) zs) 0) i = (nthNa n.arcs i).s) := fun i hi => by rw [nthLV_rows (Nat.zero_le _), List.take_zero]; exact start_nth hi
    have RL : Hid (∀ k, k ≤ zs.length → (nthLV (rowsV n (startT n) zs) k).length = n.arcs.length) := fun k hk => by rw [row_lenV hk, start_len]
    have RE : Hid (nthLV (rowsV n (startT n) zs) zs.length = endV n (startT n) zs) := by show _ = _; rw [nthLV_rows (Nat.le_refl _), List.take_length]
    have SA : Hid (∀ i, i < n.arcs.length → SoundA n.nodes (nthNa n.arcs i)) := eS.arcs
    have hw1 : IntKind.i64.wrap ((zs.length : Int) + 1) = (zs.length : Int) + 1 := by rw [IntKind.wrap_i64]; omega
    have q8 : ((zs.length : Int) + 1 != (zs.length : Int) + 1) = false := by simp
    clear hc eS
    generalize rowsV n (startT n) zs = R at *
    obtain ⟨fr, hfr⟩ : ∃ r, firesN n zs (startT n) (List.replicate n.nodes.toNat 0) = r := ⟨_, rfl⟩
    rw [hfr] at FA
    have HFR := hiddenN hfr
    have HFA := hiddenN FA
    clear FA hfr
    go_enter Try.func6, Try.ntmps6
    go_upto_region 1 with fail
    generalize w.alloc (.cells #[.int .i64 n.nodes, .slice a n.arcs.length c] 24) = W0 at *
    go_upto_region 2 with (first
      | (go_at_call 9; (with_reducible refine (LN.out W0 B0.out).mono ?_); rintro e U1 ⟨g1, gc1, rfl, q1, q2⟩; have EL := hiddenN q1; have LL := hiddenN (B0.out.trans (q2.mono B0.out.size)); have MM1 := hiddenN q2; clear q1 q2)
      | (go_at_call 23; (with_reducible refine (IN.out U1 LL.out).mono ?_); rintro e Z1 ⟨p1, pc1, rfl, q1, q2⟩; have EZ := hiddenN (EL.out.below q2); have LZ := hiddenN (LL.out.trans (q2.mono LL.out.size)); have MM2 := hiddenN (MM1.out.trans (q2.mono MM1.out.size)); have PZ := hiddenN q1.at; clear q1 q2 LL EL MM1; have CC := hiddenN (PN.out Z1 ⟨g1, 0, none⟩ p1 gc1 pc1 EZ.out.at PZ.out); )
      | (go_at_call 11; (with_reducible refine CC.out.mono ?_); rintro e W1 ⟨rb, ro, rc, rfl, r1, q2⟩; have L1 := hiddenN (LZ.out.trans (q2.mono LZ.out.size)); have M1 := hiddenN (MM2.out.trans (q2.mono MM2.out.size)); have RR := hiddenN r1; clear r1; have G1 := hiddenN (G0.out.below M1.out); have z0 := G1.out.cell (k := 0) rfl; have z1 := G1.out.cell (k := 1) rfl; simp only [List.getElem_toArray, List.getElem_cons_zero, List.getElem_cons_succ] at z0 z1; clear q2 CC LZ MM2))
    go_upto_region 3 with (first
      | (go_at_call 9; (with_reducible refine (LN.out W1 L1.out).mono ?_); rintro e U2 ⟨g2, gc2, rfl, q1, q2⟩; have EL := hiddenN q1; have LL := hiddenN (L1.out.trans (q2.mono L1.out.size)); have MM1 := hiddenN q2; have CC := hiddenN (NY.out U2 ⟨g2, 0, none⟩ gc2 q1.at); have hU := hiddenN LL.out.size; clear q1 q2)
      | (go_at_call 24; (with_reducible refine CC.out.mono ?_); rintro e W2 ⟨K, E, rfl, s2, q2⟩; have L2 := hiddenN (LL.out.trans (q2.mono LL.out.size)); have M2 := hiddenN (MM1.out.trans (q2.mono MM1.out.size)); have S2 := hiddenN s2; clear s2; have G2 := hiddenN (G1.out.below M2.out); have BU2 := hiddenN q2; have MU := hiddenN MM1.out; have hWU := hiddenN (Nat.le_trans L1.out.size MM1.out.size); clear q2 CC LL MM1))
    have RR2 : Hid (∀ k, k < zs.length + 1 → ∃ y yc, W2.cell? ⟨rb, ro + k, none⟩ = some (.slice y n.arcs.length yc) ∧ At W2 y (nthLV R k)) := fun k hk => by
      obtain ⟨y, yc, h1, h2⟩ := RR.out k hk
      exact ⟨y, yc, cellN_later M2.out h1, h2.below M2.out⟩
    have RRU : Hid (∀ k, k < zs.length + 1 → ∃ y yc, U2.cell? ⟨rb, ro + k, none⟩ = some (.slice y n.arcs.length yc) ∧ At U2 y (nthLV R k)) := fun k hk => by
      obtain ⟨y, yc, h1, h2⟩ := RR.out k hk
      exact ⟨y, yc, cellN_later MU.out h1, h2.below MU.out⟩
    clear PN NY LN G0 G1 RR M1 M2 L1 MU
    go_upto_region 10 with fail
    go_wp2
    go_loopg [10] n.arcs.length (fun gk u wr => ∃ i : Nat, i ≤ n.arcs.length ∧ gk = n.arcs.length - i ∧ u = .int .i64 (i : Int) ∧ Below W2.heap.size W2 wr)
    case atStart => exact ⟨0, Nat.zero_le _, rfl, rfl, Below.refl _ _⟩
    case round =>
      obtain ⟨i, hi, rfl, rfl, hb⟩ := hrel
      obtain ⟨wA, hwA⟩ : ∃ q : World, q = wr := ⟨_, rfl⟩
      subst hwA
      have HB := hiddenN hb
      have LA := hiddenN (L2.out.trans (hb.mono L2.out.size))
      clear hb
      have z0 := (G2.out.below HB.out).cell (k := 0) rfl; have z1 := (G2.out.below HB.out).cell (k := 1) rfl; simp only [List.getElem_toArray, List.getElem_cons_zero, List.getElem_cons_succ] at z0 z1
      by_cases hlt : i < n.arcs.length
      · have hii : (i : Int) < (n.arcs.length : Int) := by omega
        obtain ⟨ab, ao, rfl, hca⟩ : ∃ b off, a = some ⟨b, off, none⟩ ∧ ∀ k, k < n.arcs.length → w.cell? ⟨b, off + k * 5, none⟩ = some (.int .i64 (nthNa n.arcs k).f) ∧ w.cell? ⟨b, off + k * 5 + 1, none⟩ = some (.int .i64 (nthNa n.arcs k).t) ∧ w.cell? ⟨b, off + k * 5 + 2, none⟩ = some (.int .i64 (nthNa n.arcs k).g) ∧ w.cell? ⟨b, off + k * 5 + 3, none⟩ = some (.int .i64 (nthNa n.arcs k).k) ∧ w.cell? ⟨b, off + k * 5 + 4, none⟩ = some (.int .i64 (nthNa n.arcs k).s) := by
          rcases HA.out.lies with e | ⟨b, off, e, hc⟩
          · rw [e] at hlt; simp at hlt
          · exact ⟨b, off, e, hc⟩
        obtain ⟨h0, h1, h2, h3, h4⟩ := hca i hlt
        have a0 := cellN_later LA.out h0
        have a1' := cellN_later LA.out h1
        have a2 := cellN_later LA.out h2
        have a3 := cellN_later LA.out h3
        have a4 := cellN_later LA.out h4
        have SAi := hiddenN (SA.out i hlt)
        have R0i := hiddenN (R0.out i hlt)
        have STi : Hid (∀ k, k < zs.length → nth (nthLV R (k + 1)) i = nth (nthLV R k) i - (if (nthNa n.arcs i).t = nth zs k then (nthNa n.arcs i).k else 0) + (if (nthNa n.arcs i).f = nth zs k then (nthNa n.arcs i).g else 0) ∧ ((nthNa n.arcs i).t = nth zs k → (nthNa n.arcs i).k ≤ nth (nthLV R k) i) ∧ (0 ≤ nth (nthLV R k) i ∧ nth (nthLV R k) i ≤ 1000000)) := fun k hk => STP.out k i hk hlt
        clear h0 h1 h2 h3 h4 hca
        generalize nthNa n.arcs i = x at *
        obtain ⟨xf, xt, xg, xk, xs⟩ := x
        simp only at a0 a1' a2 a3 a4
        have bX := (Below.refl wA.heap.size wA).alloc (Nat.le_refl _) (.cells #[.int .i64 xf, .int .i64 xt, .int .i64 xg, .int .i64 xk, .int .i64 xs] 50)
        have XX := hiddenN (blkA_new 50 wA #[.int .i64 xf, .int .i64 xt, .int .i64 xg, .int .i64 xk, .int .i64 xs])
        have HBX := hiddenN (HB.out.trans (bX.mono HB.out.size))
        clear bX
        go_upto_region 14 with fail
        generalize wA.alloc (.cells #[.int .i64 xf, .int .i64 xt, .int .i64 xg, .int .i64 xk, .int .i64 xs] 50) = wB at *
        have x4 := XX.out.cell (k := 4) rfl
        simp only [List.getElem_toArray, List.getElem_cons_zero, List.getElem_cons_succ] at x4
        go_wp2
        clear a0 a1' a2 a3 a4 x4
        go_loopg [12, 13] (zs.length + 1) (fun gk u12 u13 wq => ∃ (k : Nat) (y : Int), k ≤ zs.length + 1 ∧ gk = zs.length + 1 - k ∧ u13 = .int .i64 (k : Int) ∧ u12 = .int .i64 y ∧ (k = 0 → y = xs) ∧ (∀ q, k = q + 1 → y = nth (nthLV R q) i) ∧ Below wB.heap.size wB wq)
        case atStart => exact ⟨0, xs, Nat.zero_le _, rfl, rfl, rfl, fun _ => rfl, fun q e => by omega, Below.refl _ _⟩
        case round =>
          obtain ⟨k, y, hk, rfl, rfl, rfl, hy0, hy1, hb⟩ := hrel
          have HQ := hiddenN hb
          have HQ2 := hiddenN (HBX.out.trans (hb.mono HBX.out.size))
          have LQ := hiddenN (L2.out.trans (HQ2.out.mono L2.out.size))
          clear hb
          by_cases hkl : k < zs.length + 1
          · have hki : (k : Int) < (zs.length : Int) + 1 := by omega
            obtain ⟨ry, rcy, c0, c1⟩ := RR2.out k hkl
            have d0 := cellN_later HQ2.out c0
            rcases c1.below HQ2.out with e | ⟨yb, yo, rfl, hcy⟩
            · have := RL.out k (by omega); rw [e] at this; simp at this; omega
            have d1 := hcy i (by rw [RL.out k (by omega)]; exact hlt)
            have F0 := FEW.out k i (by omega) hlt
            obtain ⟨yk, hyk⟩ : ∃ q, nth (nthLV R k) i = q := ⟨_, rfl⟩
            rw [hyk] at d1 F0
            have HYK := hiddenN hyk
            have x0 := (XX.out.below HQ.out).cell (k := 0) rfl
            have x1 := (XX.out.below HQ.out).cell (k := 1) rfl
            have x2 := (XX.out.below HQ.out).cell (k := 2) rfl
            have x3 := (XX.out.below HQ.out).cell (k := 3) rfl
            have z0 := (G2.out.below HQ2.out).cell (k := 0) rfl; have z1 := (G2.out.below HQ2.out).cell (k := 1) rfl; simp only [List.getElem_toArray, List.getElem_cons_zero, List.getElem_cons_succ] at z0 z1
            simp only [List.getElem_toArray, List.getElem_cons_zero, List.getElem_cons_succ] at x0 x1 x2 x3
            have p1 : ((n.arcs.length : Int) != (n.arcs.length : Int)) = false := by simp
            have p2 : (yk != yk) = false := by simp
            have p3 : decide (yk < 0) = false := by simp; omega
            clear c0 c1 hcy hyk
            cases k with
            | zero =>
              have e0 : y = yk := by rw [hy0 rfl, ← HYK.out]; exact R0i.out.symm
              subst e0
              clear hy0 hy1 F0 x0 x1 x2 x3
              have BWQ := hiddenN HQ.out
              rw [Nat.add_zero] at d0
              go_upto_region 25 with fail
              go_quiet (fail)
              have HB9 := hiddenN (drewB BWQ.out nq)
              have HYL : Hid (∀ r, 0 + 1 = r + 1 → y = nth (nthLV R r) i) := fun r e => by
                have e9 : 0 = r := by omega
                rw [← e9]
                exact HYK.out.symm
              go_wp2
              go_roundg (zs.length + 1 - (0 + 1))
              case measure => omega
              case rel => exact ⟨0 + 1, y, by omega, rfl, by go_num, rfl, fun e => by omega, HYL.out, by first | exact drewB BWQ.out _ | exact drewB (drewB BWQ.out _) _ | exact drewB (drewB (drewB BWQ.out _) _) _⟩
            | succ q =>
              have hq : q < zs.length := by omega
              have hst := STi.out q hq
              have ey : y = nth (nthLV R q) i := hy1 q rfl
              rw [← ey, HYK.out] at hst
              obtain ⟨zb, zo, rfl, hcz⟩ : ∃ b off, a1 = some ⟨b, off, none⟩ ∧ ∀ k, k < zs.length → w.cell? ⟨b, off + k, none⟩ = some (.int .i64 (nth zs k)) := by
                rcases H1.out.lies with e | ⟨b, off, e, hc⟩
                · rw [e] at hq; simp at hq
                · exact ⟨b, off, e, hc⟩
              have l0 := cellN_later LQ.out (hcz q hq)
              obtain ⟨v, hv⟩ : ∃ v, nth zs q = v := ⟨_, rfl⟩
              rw [hv] at hst l0
              have HST : Hid (yk = y - (if xt = v then xk else 0) + (if xf = v then xg else 0) ∧ (xt = v → xk ≤ y) ∧ (0 ≤ y ∧ y ≤ 1000000)) := hst
              have hqi : (q : Int) < (zs.length : Int) := by omega
              have w1 : IntKind.i64.wrap ((q : Int) + 1 - 1) = (q : Int) := by rw [IntKind.wrap_i64]; omega
              have w0 : IntKind.i64.wrap (q : Int) = (q : Int) := by rw [IntKind.wrap_i64]; omega
              have hgt : ((q + 1 : Nat) : Int) > 0 := by omega
              have hs := SAi.out
              have hkk : 1 ≤ xk ∧ xk ≤ 64 := hs.k
              have hgg : 1 ≤ xg ∧ xg ≤ 64 := hs.g
              clear hcz hv ey hy0 hy1 hs hst
              have s3 := HST.out.2.2
              go_upto_region 19 with fail
              have BWQ := hiddenN HQ.out
              by_cases ht : xt = v
              · have hle := HST.out.2.1 ht
                have e1 := HST.out.1
                rw [if_pos ht] at e1
                have t1 : (xt == v) = true := by simpa using ht
                obtain ⟨y1, hy1⟩ : ∃ q, y - xk = q := ⟨_, rfl⟩
                have w3 : IntKind.i64.wrap (y - xk) = y1 := by rw [IntKind.wrap_i64]; omega
                have w4 : wrap64 (y - xk) = y1 := by rw [wrap64_id (by omega)]; omega
                have n1 : ¬ y1 < 0 := by omega
                have b1 : y1 ≤ 1000000 := by omega
                rw [hy1] at e1
                have HE1 := hiddenN e1
                clear hy1 hle e1 ht HST
                go_quiet (fail)
                go_upto_region 23 with fail
                by_cases hf : xf = v
                · have e5 := HE1.out
                  rw [if_pos hf] at e5
                  have f1 : (xf == v) = true := by simpa using hf
                  have w5 : IntKind.i64.wrap (y1 + xg) = yk := by rw [IntKind.wrap_i64]; omega
                  have w6 : wrap64 (y1 + xg) = yk := by rw [wrap64_id (by omega)]; omega
                  clear hf e5
                  go_quiet (fail)
                  go_upto_region 25 with fail
                  go_quiet (fail)
                  have HYL : Hid (∀ r, q + 1 + 1 = r + 1 → yk = nth (nthLV R r) i) := fun r e => by
                    have e9 : q + 1 = r := by omega
                    rw [← e9]
                    exact HYK.out.symm
                  go_wp2
                  go_roundg (zs.length + 1 - (q + 1 + 1))
                  case measure => omega
                  case rel => exact ⟨q + 1 + 1, yk, by omega, rfl, by go_num, rfl, fun e => by omega, HYL.out, by first | exact drewB BWQ.out _ | exact drewB (drewB BWQ.out _) _ | exact drewB (drewB (drewB BWQ.out _) _) _⟩
                · have e5 := HE1.out
                  rw [if_neg hf, Int.add_zero] at e5
                  have f1 : (xf == v) = false := by simpa using hf
                  clear hf
                  subst e5
                  go_quiet (fail)
                  go_upto_region 25 with fail
                  go_quiet (fail)
                  have HYL : Hid (∀ r, q + 1 + 1 = r + 1 → yk = nth (nthLV R r) i) := fun r e => by
                    have e9 : q + 1 = r := by omega
                    rw [← e9]
                    exact HYK.out.symm
                  go_wp2
                  go_roundg (zs.length + 1 - (q + 1 + 1))
                  case measure => omega
                  case rel => exact ⟨q + 1 + 1, yk, by omega, rfl, by go_num, rfl, fun e => by omega, HYL.out, by first | exact drewB BWQ.out _ | exact drewB (drewB BWQ.out _) _ | exact drewB (drewB (drewB BWQ.out _) _) _⟩
              · have e1 := HST.out.1
                rw [if_neg ht, Int.sub_zero] at e1
                have t1 : (xt == v) = false := by simpa using ht
                have HE1 := hiddenN e1
                clear ht e1 HST
                go_quiet (fail)
                go_upto_region 23 with fail
                by_cases hf : xf = v
                · have e5 := HE1.out
                  rw [if_pos hf] at e5
                  have f1 : (xf == v) = true := by simpa using hf
                  have w5 : IntKind.i64.wrap (y + xg) = yk := by rw [IntKind.wrap_i64]; omega
                  have w6 : wrap64 (y + xg) = yk := by rw [wrap64_id (by omega)]; omega
                  clear hf e5
                  go_quiet (fail)
                  go_upto_region 25 with fail
                  go_quiet (fail)
                  have HYL : Hid (∀ r, q + 1 + 1 = r + 1 → yk = nth (nthLV R r) i) := fun r e => by
                    have e9 : q + 1 = r := by omega
                    rw [← e9]
                    exact HYK.out.symm
                  go_wp2
                  go_roundg (zs.length + 1 - (q + 1 + 1))
                  case measure => omega
                  case rel => exact ⟨q + 1 + 1, yk, by omega, rfl, by go_num, rfl, fun e => by omega, HYL.out, by first | exact drewB BWQ.out _ | exact drewB (drewB BWQ.out _) _ | exact drewB (drewB (drewB BWQ.out _) _) _⟩
                · have e5 := HE1.out
                  rw [if_neg hf, Int.add_zero] at e5
                  have f1 : (xf == v) = false := by simpa using hf
                  clear hf
                  subst e5
                  go_quiet (fail)
                  go_upto_region 25 with fail
                  go_quiet (fail)
                  have HYL : Hid (∀ r, q + 1 + 1 = r + 1 → yk = nth (nthLV R r) i) := fun r e => by
                    have e9 : q + 1 = r := by omega
                    rw [← e9]
                    exact HYK.out.symm
                  go_wp2
                  go_roundg (zs.length + 1 - (q + 1 + 1))
                  case measure => omega
                  case rel => exact ⟨q + 1 + 1, yk, by omega, rfl, by go_num, rfl, fun e => by omega, HYL.out, by first | exact drewB BWQ.out _ | exact drewB (drewB BWQ.out _) _ | exact drewB (drewB (drewB BWQ.out _) _) _⟩
          · have hki : ¬ (k : Int) < (zs.length : Int) + 1 := by omega
            go_wp2
            go_roundg (n.arcs.length - (i + 1))
            case measure => omega
            case rel => exact ⟨i + 1, by omega, rfl, by go_num, HQ2.out⟩
      · have hii : ¬ (i : Int) < (n.arcs.length : Int) := by omega
        have SW := hiddenN (S2.out.below HB.out)
        have hUA : U2.heap.size ≤ wA.heap.size := SW.out.low.1
        have BUA : Hid (Below U2.heap.size U2 wA) := BU2.out.trans (HB.out.mono S2.out.low.1)
        obtain ⟨yL, ycL, c0, c1⟩ := RRU.out zs.length (Nat.lt_succ_self _)
        rw [RE.out] at c1
        have C0 := hiddenN c0
        have C1 := hiddenN c1
        have HEL : Hid ((endV n (startT n) zs).length = n.arcs.length) := by show _ = _; rw [end_lenV, start_len]
        have wz : IntKind.i64.wrap ((zs.length : Int) + 1 - 1) = (zs.length : Int) := by rw [IntKind.wrap_i64]; omega
        have wz0 : IntKind.i64.wrap (zs.length : Int) = (zs.length : Int) := by rw [IntKind.wrap_i64]; omega
        have hzi : (zs.length : Int) < (zs.length : Int) + 1 := by omega
        have FRR : Hid (∀ u p pc, Below U2.heap.size wA u → StE U2.heap.size E u K n (startT n) (List.replicate n.nodes.toNat 0) → At u p zs → (∀ x, p = some x → E ≤ x.block) → Calls Try.prog 25 #[.pointer (some ⟨K, 0, none⟩), .slice p zs.length pc] u fun e w' => e = .returned (.int .i64 (zs.length : Int)) ∧ StE U2.heap.size E w' K n (endV n (startT n) zs) fr.2.2 ∧ Below U2.heap.size u w') := fun u p pc hb hs hat hbl => by
          have q := fires_any u K n _ _ hs p pc zs hat hzl (fun x hx _ => .inr (hbl x hx))
          rw [HFR.out] at q
          refine q.mono ?_
          rintro e w' ⟨e1, e2, e3⟩
          rw [HFA.out.1] at e1
          rw [HFA.out.2] at e2
          exact ⟨e1, e2, e3.below hs.low.1⟩
        clear c0 c1 HFR HFA
        go_upto_region 27 with fail
        clear z0 z1 hw1 q8
        refine wp_region_gen [5] (fun d i u z => match i with
            | 0 => z = .bool true
            | 1 => z = .bool true
            | 2 => z = .pointer (some ⟨K, 0, none⟩)
            | 3 => z = .slice a1 zs.length cap1
            | 4 => d 5 = false → InS E u zs z
            | 5 => z = .int .i64 (zs.length : Int)
            | 6 => z = .slice a1 zs.length cap1
            | 7 => z = .int .i64 (zs.length : Int)
            | 8 => (d 5 = true ∧ z = .bool true)
            | 9 => (d 5 = true ∧ z = .bool true)
            | 10 => (d 5 = true ∧ z = .bool true)
            | 11 => (d 5 = true ∧ z = .pointer (some ⟨K, 0, none⟩))
            | 12 => d 5 = true ∧ CnS n.arcs.length u (endV n (startT n) zs) z
            | 13 => z = .slice (some ⟨rb, ro, none⟩) (zs.length + 1) rc
            | 14 => z = .slice (some ⟨rb, ro, none⟩) (zs.length + 1) rc
            | 15 => z = .int .i64 ((zs.length : Int) + 1)
            | 16 => z = .int .i64 (zs.length : Int)
            | 17 => z = .pointer (some ⟨rb, ro + zs.length, none⟩)
            | 18 => z = .slice yL n.arcs.length ycL
            | 19 => z = .bool true
            | 20 => z = .bool true
            | 21 => z = .bool true
            | _ => True) (fun d u => Below U2.heap.size wA u ∧ (d 5 = false → StE U2.heap.size E u K n (startT n) (List.replicate n.nodes.toNat 0)) ∧ (d 5 = true → StE U2.heap.size E u K n (endV n (startT n) zs) fr.2.2)) (by kernel_rfl) (by kernel_rfl) (by kernel_rfl) ?_ ?_ ?_ ?_ ?_ ?_ (by kernel_rfl)
        · intro d i w v w' h hb
          match i, h with
          | 0, h => exact h
          | 1, h => exact h
          | 2, h => exact h
          | 3, h => exact h
          | 4, h => exact fun e => InS.later (h e) hb
          | 5, h => exact h
          | 6, h => exact h
          | 7, h => exact h
          | 8, h => exact h
          | 9, h => exact h
          | 10, h => exact h
          | 11, h => exact h
          | 12, h => exact ⟨h.1, CnS.later h.2 hb⟩
          | 13, h => exact h
          | 14, h => exact h
          | 15, h => exact h
          | 16, h => exact h
          | 17, h => exact h
          | 18, h => exact h
          | 19, h => exact h
          | 20, h => exact h
          | 21, h => exact h
          | _ + 22, _ => trivial
        · intro d u u' h hb
          exact ⟨h.1.trans (hb.mono (Nat.le_trans hUA h.1.size)), fun e => (h.2.1 e).below hb, fun e => (h.2.2 e).below hb⟩
        · exact ⟨Below.refl _ _, fun _ => SW.out, fun e => absurd e (by decide)⟩
        · intro d i o ρ w' hm ho hf hg hC hcs hfs hfr hdep
          match i, hm, ho, hf, hg, hfr, hdep with
          | 0, _, ho, hf, hg, hfr, hdep =>
            simp only [gTA, gCZ, gSI] at ho
            subst ho
            refine ⟨fun _ => ?_, fun hw => absurd (show true = false from hw) (by decide)⟩
            simp [go_sem, hfs]
            exact ⟨rfl, (AW.out w').mono fun e w'' ⟨e1, b⟩ => ⟨_, e1, b, rfl⟩⟩
          | 1, _, ho, hf, hg, hfr, hdep =>
            simp only [gTA, gCZ, gCS, gSI] at ho
            subst ho
            refine ⟨fun _ => ?_, fun hw => absurd (show true = false from hw) (by decide)⟩
            have d0 : ρ (.tmp 160) = .bool true := hdep 0 160 (by kernel_rfl) (by kernel_rfl)
            simp [go_sem, d0]
            exact ⟨Below.refl _ _, rfl⟩
          | 2, _, ho, hf, hg, hfr, hdep =>
            simp only [gTA, gCZ, gCS, gSI] at ho
            subst ho
            have gd : ρ (.tmp 161) = .bool true := hdep 1 161 (by kernel_rfl) (by kernel_rfl)
            refine ⟨fun _ => ?_, fun hw => absurd (show (match ρ (.tmp 161) with | .bool c => c == true | _ => false) = false from hw) (by rw [gd]; decide)⟩
            clear gd
            have ts : ρ (.tmp 7) = .pointer (some ⟨K, 0, none⟩) := hfr 7 (by kernel_rfl)
            simp [go_sem, ts]
            exact ⟨Below.refl _ _, rfl⟩
          | 3, _, ho, hf, hg, hfr, hdep =>
            simp only [gTA, gCZ, gCS, gSI] at ho
            subst ho
            have gd : ρ (.tmp 161) = .bool true := hdep 1 161 (by kernel_rfl) (by kernel_rfl)
            refine ⟨fun _ => ?_, fun hw => absurd (show (match ρ (.tmp 161) with | .bool c => c == true | _ => false) = false from hw) (by rw [gd]; decide)⟩
            clear gd
            have ts : ρ (.tmp 1) = .slice a1 zs.length cap1 := hfr 1 (by kernel_rfl)
            simp [go_sem, ts]
            exact ⟨Below.refl _ _, rfl⟩
          | 4, _, ho, hf, hg, hfr, hdep =>
            simp only [gTA, gCZ, gCS, gSI] at ho
            subst ho
            have gd : ρ (.tmp 161) = .bool true := hdep 1 161 (by kernel_rfl) (by kernel_rfl)
            refine ⟨fun _ => ?_, fun hw => absurd (show (match ρ (.tmp 161) with | .bool c => c == true | _ => false) = false from hw) (by rw [gd]; decide)⟩
            clear gd
            have h5 : d 5 = false := hf 5 (by decide) (by kernel_rfl)
            have t0 : ρ (.tmp 163) = .slice a1 zs.length cap1 := hdep 3 163 (by kernel_rfl) (by kernel_rfl)
            simp [go_sem, t0, hfs]
            exact ⟨rfl, (IN.out w' (LA.out.trans (hC.1.mono hWU.out))).mono fun e w'' ⟨p, pc, e1, q1, q2⟩ => ⟨_, e1, q2, fun _ => ⟨p, pc, rfl, q1.at, fun x hx => Nat.le_trans (hC.2.1 h5).low.2 (q1.lt x hx).1⟩⟩⟩
          | 5, hm, _, _, _, _, _ => exact absurd hm (by decide)
          | 6, _, ho, hf, hg, hfr, hdep =>
            simp only [gTA, gCZ, gCS, gSI] at ho
            subst ho
            have gd : ρ (.tmp 161) = .bool true := hdep 1 161 (by kernel_rfl) (by kernel_rfl)
            refine ⟨fun _ => ?_, fun hw => absurd (show (match ρ (.tmp 161) with | .bool c => c == true | _ => false) = false from hw) (by rw [gd]; decide)⟩
            clear gd
            have ts : ρ (.tmp 1) = .slice a1 zs.length cap1 := hfr 1 (by kernel_rfl)
            simp [go_sem, ts]
            exact ⟨Below.refl _ _, rfl⟩
          | 7, _, ho, hf, hg, hfr, hdep =>
            simp only [gTA, gCZ, gCS, gSI] at ho
            subst ho
            have gd : ρ (.tmp 161) = .bool true := hdep 1 161 (by kernel_rfl) (by kernel_rfl)
            refine ⟨fun _ => ?_, fun hw => absurd (show (match ρ (.tmp 161) with | .bool c => c == true | _ => false) = false from hw) (by rw [gd]; decide)⟩
            clear gd
            have d0 : ρ (.tmp 166) = .slice a1 zs.length cap1 := hdep 6 166 (by kernel_rfl) (by kernel_rfl)
            simp [go_sem, d0]
            exact ⟨Below.refl _ _, rfl⟩
          | 8, _, ho, hf, hg, hfr, hdep =>
            simp only [gTA, gCZ, gCS, gSI] at ho
            subst ho
            have gd : ρ (.tmp 161) = .bool true := hdep 1 161 (by kernel_rfl) (by kernel_rfl)
            refine ⟨fun _ => ?_, fun hw => absurd (show (match ρ (.tmp 161) with | .bool c => c == true | _ => false) = false from hw) (by rw [gd]; decide)⟩
            clear gd
            have h5 : d 5 = true := hg 5 (by decide) (by kernel_rfl)
            have t0 : ρ (.tmp 165) = .int .i64 (zs.length : Int) := hdep 5 165 (by kernel_rfl) (by kernel_rfl)
            have t1 : ρ (.tmp 167) = .int .i64 (zs.length : Int) := hdep 7 167 (by kernel_rfl) (by kernel_rfl)
            simp [go_sem, t0, t1]
            exact ⟨Below.refl _ _, h5, rfl⟩
          | 9, _, ho, hf, hg, hfr, hdep =>
            simp only [gTA, gCZ, gCS, gSI] at ho
            subst ho
            refine ⟨fun _ => ?_, fun hw => absurd (show true = false from hw) (by decide)⟩
            have t0 : ρ (.tmp 161) = .bool true := hdep 1 161 (by kernel_rfl) (by kernel_rfl)
            obtain ⟨h5, t1⟩ : d 5 = true ∧ ρ (.tmp 168) = .bool true := hdep 8 168 (by kernel_rfl) (by kernel_rfl)
            simp [go_sem, t0, t1]
            exact ⟨Below.refl _ _, h5, rfl⟩
          | 10, _, ho, hf, hg, hfr, hdep =>
            simp only [gTA, gCZ, gCS, gSI] at ho
            subst ho
            refine ⟨fun _ => ?_, fun hw => absurd (show true = false from hw) (by decide)⟩
            obtain ⟨h5, t0⟩ : d 5 = true ∧ ρ (.tmp 169) = .bool true := hdep 9 169 (by kernel_rfl) (by kernel_rfl)
            simp [go_sem, t0]
            exact ⟨Below.refl _ _, h5, rfl⟩
          | 11, _, ho, hf, hg, hfr, hdep =>
            simp only [gTA, gCZ, gCS, gSI] at ho
            subst ho
            obtain ⟨gd5, gd⟩ : d 5 = true ∧ ρ (.tmp 170) = .bool true := hdep 10 170 (by kernel_rfl) (by kernel_rfl)
            refine ⟨fun _ => ?_, fun hw => absurd (show (match ρ (.tmp 170) with | .bool c => c == true | _ => false) = false from hw) (by rw [gd]; decide)⟩
            clear gd
            have ts : ρ (.tmp 7) = .pointer (some ⟨K, 0, none⟩) := hfr 7 (by kernel_rfl)
            simp [go_sem, ts]
            exact ⟨Below.refl _ _, gd5, rfl⟩
          | 12, _, ho, hf, hg, hfr, hdep =>
            simp only [gTA, gCZ, gCS, gSI] at ho
            subst ho
            obtain ⟨gd5, gd⟩ : d 5 = true ∧ ρ (.tmp 170) = .bool true := hdep 10 170 (by kernel_rfl) (by kernel_rfl)
            refine ⟨fun _ => ?_, fun hw => absurd (show (match ρ (.tmp 170) with | .bool c => c == true | _ => false) = false from hw) (by rw [gd]; decide)⟩
            clear gd
            obtain ⟨h5, t0⟩ : d 5 = true ∧ ρ (.tmp 171) = .pointer (some ⟨K, 0, none⟩) := hdep 11 171 (by kernel_rfl) (by kernel_rfl)
            simp [go_sem, t0, hfs]
            exact ⟨rfl, (countsL w' K n _ _ (hC.2.2 h5)).mono fun e w'' ⟨q, qc, e1, q1, q2⟩ => ⟨_, e1, q2, h5, q, qc, rfl, q1.at⟩⟩
          | 13, _, ho, hf, hg, hfr, hdep =>
            simp only [gTA, gCZ, gCS, gSI] at ho
            subst ho
            obtain ⟨gd5, gd⟩ : d 5 = true ∧ ρ (.tmp 170) = .bool true := hdep 10 170 (by kernel_rfl) (by kernel_rfl)
            refine ⟨fun _ => ?_, fun hw => absurd (show (match ρ (.tmp 170) with | .bool c => c == true | _ => false) = false from hw) (by rw [gd]; decide)⟩
            clear gd
            have ts : ρ (.tmp 5) = .slice (some ⟨rb, ro, none⟩) (zs.length + 1) rc := hfr 5 (by kernel_rfl)
            simp [go_sem, ts]
            exact ⟨Below.refl _ _, rfl⟩
          | 14, _, ho, hf, hg, hfr, hdep =>
            simp only [gTA, gCZ, gCS, gSI] at ho
            subst ho
            obtain ⟨gd5, gd⟩ : d 5 = true ∧ ρ (.tmp 170) = .bool true := hdep 10 170 (by kernel_rfl) (by kernel_rfl)
            refine ⟨fun _ => ?_, fun hw => absurd (show (match ρ (.tmp 170) with | .bool c => c == true | _ => false) = false from hw) (by rw [gd]; decide)⟩
            clear gd
            have ts : ρ (.tmp 5) = .slice (some ⟨rb, ro, none⟩) (zs.length + 1) rc := hfr 5 (by kernel_rfl)
            simp [go_sem, ts]
            exact ⟨Below.refl _ _, rfl⟩
          | 15, _, ho, hf, hg, hfr, hdep =>
            simp only [gTA, gCZ, gCS, gSI] at ho
            subst ho
            obtain ⟨gd5, gd⟩ : d 5 = true ∧ ρ (.tmp 170) = .bool true := hdep 10 170 (by kernel_rfl) (by kernel_rfl)
            refine ⟨fun _ => ?_, fun hw => absurd (show (match ρ (.tmp 170) with | .bool c => c == true | _ => false) = false from hw) (by rw [gd]; decide)⟩
            clear gd
            have d0 : ρ (.tmp 174) = .slice (some ⟨rb, ro, none⟩) (zs.length + 1) rc := hdep 14 174 (by kernel_rfl) (by kernel_rfl)
            simp [go_sem, d0]
            exact ⟨Below.refl _ _, rfl⟩
          | 16, _, ho, hf, hg, hfr, hdep =>
            simp only [gTA, gCZ, gCS, gSI] at ho
            subst ho
            obtain ⟨gd5, gd⟩ : d 5 = true ∧ ρ (.tmp 170) = .bool true := hdep 10 170 (by kernel_rfl) (by kernel_rfl)
            refine ⟨fun _ => ?_, fun hw => absurd (show (match ρ (.tmp 170) with | .bool c => c == true | _ => false) = false from hw) (by rw [gd]; decide)⟩
            clear gd
            have d0 : ρ (.tmp 175) = .int .i64 ((zs.length : Int) + 1) := hdep 15 175 (by kernel_rfl) (by kernel_rfl)
            simp [go_sem, d0, hcs, wz0]
            exact ⟨Below.refl _ _, rfl⟩
          | 17, _, ho, hf, hg, hfr, hdep =>
            simp only [gTA, gCZ, gCS, gSI] at ho
            subst ho
            obtain ⟨gd5, gd⟩ : d 5 = true ∧ ρ (.tmp 170) = .bool true := hdep 10 170 (by kernel_rfl) (by kernel_rfl)
            refine ⟨fun _ => ?_, fun hw => absurd (show (match ρ (.tmp 170) with | .bool c => c == true | _ => false) = false from hw) (by rw [gd]; decide)⟩
            clear gd
            have d0 : ρ (.tmp 173) = .slice (some ⟨rb, ro, none⟩) (zs.length + 1) rc := hdep 13 173 (by kernel_rfl) (by kernel_rfl)
            have d1 : ρ (.tmp 176) = .int .i64 (zs.length : Int) := hdep 16 176 (by kernel_rfl) (by kernel_rfl)
            simp [go_sem, d0, d1, hzi]
            exact ⟨Below.refl _ _, rfl⟩
          | 18, _, ho, hf, hg, hfr, hdep =>
            simp only [gTA, gCZ, gCS, gSI] at ho
            subst ho
            obtain ⟨gd5, gd⟩ : d 5 = true ∧ ρ (.tmp 170) = .bool true := hdep 10 170 (by kernel_rfl) (by kernel_rfl)
            refine ⟨fun _ => ?_, fun hw => absurd (show (match ρ (.tmp 170) with | .bool c => c == true | _ => false) = false from hw) (by rw [gd]; decide)⟩
            clear gd
            have kc := cellN_later (BUA.out.trans hC.1) C0.out
            have d0 : ρ (.tmp 177) = .pointer (some ⟨rb, ro + zs.length, none⟩) := hdep 17 177 (by kernel_rfl) (by kernel_rfl)
            simp [go_sem, d0, kc]
            exact ⟨Below.refl _ _, rfl⟩
          | 19, _, ho, hf, hg, hfr, hdep =>
            simp only [gTA, gCZ, gCS, gSI] at ho
            subst ho
            obtain ⟨gd5, gd⟩ : d 5 = true ∧ ρ (.tmp 170) = .bool true := hdep 10 170 (by kernel_rfl) (by kernel_rfl)
            refine ⟨fun _ => ?_, fun hw => absurd (show (match ρ (.tmp 170) with | .bool c => c == true | _ => false) = false from hw) (by rw [gd]; decide)⟩
            clear gd
            obtain ⟨h5, q, qc, t0, q1⟩ : d 5 = true ∧ CnS n.arcs.length w' (endV n (startT n) zs) (ρ (.tmp 172)) := hdep 12 172 (by kernel_rfl) (by kernel_rfl)
            have t1 : ρ (.tmp 178) = .slice yL n.arcs.length ycL := hdep 18 178 (by kernel_rfl) (by kernel_rfl)
            simp [go_sem, t0, t1, hfs]
            exact ⟨rfl, (same_any q yL _ n.arcs.length qc ycL w' HEL.out hroom q1 (C1.out.below (BUA.out.trans hC.1))).mono fun e w'' hh => by obtain ⟨m, e1, e2⟩ := hh; exact ⟨_, e1, by rw [e2]; exact drewB (Below.refl _ _) m, rfl⟩⟩
          | 20, _, ho, hf, hg, hfr, hdep =>
            simp only [gTA, gCZ, gCS, gSI] at ho
            subst ho
            refine ⟨fun _ => ?_, fun hw => absurd (show true = false from hw) (by decide)⟩
            obtain ⟨h5, t0⟩ : d 5 = true ∧ ρ (.tmp 170) = .bool true := hdep 10 170 (by kernel_rfl) (by kernel_rfl)
            have t1 : ρ (.tmp 179) = .bool true := hdep 19 179 (by kernel_rfl) (by kernel_rfl)
            simp [go_sem, t0, t1]
            exact ⟨Below.refl _ _, rfl⟩
          | 21, _, ho, hf, hg, hfr, hdep =>
            simp only [gTA, gCZ, gCS, gSI] at ho
            subst ho
            refine ⟨fun _ => ?_, fun hw => absurd (show true = false from hw) (by decide)⟩
            have d0 : ρ (.tmp 180) = .bool true := hdep 20 180 (by kernel_rfl) (by kernel_rfl)
            simp [go_sem, d0]
            exact ⟨Below.refl _ _, rfl⟩
          | n + 22, _, ho, _, _, _, _ => simp at ho
        · intro d i o ρ w' hm ho h0 hf hg hC hcs hfs hfr hdep
          match i, hm, ho, h0, hf, hg, hfr, hdep with
          | 0, hm, _, _, _, _, _, _ => exact absurd hm (by decide)
          | 1, hm, _, _, _, _, _, _ => exact absurd hm (by decide)
          | 2, hm, _, _, _, _, _, _ => exact absurd hm (by decide)
          | 3, hm, _, _, _, _, _, _ => exact absurd hm (by decide)
          | 4, hm, _, _, _, _, _, _ => exact absurd hm (by decide)
          | 5, _, ho, h0, hf, hg, hfr, hdep =>
            simp only [gTA, gCZ, gCS, gSI] at ho
            subst ho
            have gd : ρ (.tmp 161) = .bool true := hdep 1 161 (by kernel_rfl) (by kernel_rfl)
            have t0 : ρ (.tmp 162) = .pointer (some ⟨K, 0, none⟩) := hdep 2 162 (by kernel_rfl) (by kernel_rfl)
            obtain ⟨p, pc, t1, k2, k3⟩ : InS E w' zs (ρ (.tmp 164)) := hdep 4 164 (by kernel_rfl) (by kernel_rfl) h0
            refine ⟨?_, ?_⟩
            · show (match ρ (.tmp 161) with | .bool c => c == true | _ => false) = true
              rw [gd]; rfl
            simp [go_sem, markUpon, t0, t1, hfs]
            refine (FRR.out w' p pc hC.1 (hC.2.1 h0) k2 k3).mono ?_
            rintro e w'' ⟨rfl, k4, k5⟩
            refine ⟨_, rfl, ⟨hC.1.trans k5, fun e => absurd (show (true : Bool) = false from (doneAt_eq d 5).symm.trans e) (by decide), fun _ => k4⟩, rfl, ?_⟩
            intro j t hj hs
            match j, hs with
            | 0, hs => exact hs
            | 1, hs => exact hs
            | 2, hs => exact hs
            | 3, hs => exact hs
            | 4, hs => exact fun e => absurd (show (true : Bool) = false from (doneAt_eq d 5).symm.trans e) (by decide)
            | 5, hs => exact hs
            | 6, hs => exact hs
            | 7, hs => exact hs
            | 8, hs => exact absurd hs.1 (by rw [h0]; decide)
            | 9, hs => exact absurd hs.1 (by rw [h0]; decide)
            | 10, hs => exact absurd hs.1 (by rw [h0]; decide)
            | 11, hs => exact absurd hs.1 (by rw [h0]; decide)
            | 12, hs => exact absurd hs.1 (by rw [h0]; decide)
            | 13, hs => exact hs
            | 14, hs => exact hs
            | 15, hs => exact hs
            | 16, hs => exact hs
            | 17, hs => exact hs
            | 18, hs => exact hs
            | 19, hs => exact hs
            | 20, hs => exact hs
            | 21, hs => exact hs
            | _ + 22, _ => trivial
          | 6, hm, _, _, _, _, _, _ => exact absurd hm (by decide)
          | 7, hm, _, _, _, _, _, _ => exact absurd hm (by decide)
          | 8, hm, _, _, _, _, _, _ => exact absurd hm (by decide)
          | 9, hm, _, _, _, _, _, _ => exact absurd hm (by decide)
          | 10, hm, _, _, _, _, _, _ => exact absurd hm (by decide)
          | 11, hm, _, _, _, _, _, _ => exact absurd hm (by decide)
          | 12, hm, _, _, _, _, _, _ => exact absurd hm (by decide)
          | 13, hm, _, _, _, _, _, _ => exact absurd hm (by decide)
          | 14, hm, _, _, _, _, _, _ => exact absurd hm (by decide)
          | 15, hm, _, _, _, _, _, _ => exact absurd hm (by decide)
          | 16, hm, _, _, _, _, _, _ => exact absurd hm (by decide)
          | 17, hm, _, _, _, _, _, _ => exact absurd hm (by decide)
          | 18, hm, _, _, _, _, _, _ => exact absurd hm (by decide)
          | 19, hm, _, _, _, _, _, _ => exact absurd hm (by decide)
          | 20, hm, _, _, _, _, _, _ => exact absurd hm (by decide)
          | 21, hm, _, _, _, _, _, _ => exact absurd hm (by decide)
          | n + 22, _, ho, _, _, _, _, _ => simp at ho
        · intro V w9 hC9 hS
          have e21 : V 21 = .bool true := hS 21 (by decide) (by intro h; cases h)
          simp only [puts, e21]
          simp only [Act.put, List.setIfInBounds_toArray, List.set_cons_zero, List.set_cons_succ]
          clear hS e21
          go_wp2
          go_ret
          exact ⟨by first | rfl | simp, LA.out.trans (hC9.1.mono hWU.out)⟩
  · have PN : Hid (∀ U x y cx cy, AtN U (some x) n.arcs → At U y zs → Calls Try.prog 11 #[.agg #[.int .i64 n.nodes, .slice (some x) n.arcs.length cx], .slice y zs.length cy] U fun e w' => e = .returned (.tuple #[.slice none 0 0, .int .i64 (codeV n zs)]) ∧ Below U.heap.size U w') := fun U x y cx cy q1 q2 => (along_any n (some x) cx U q1 hroom (fun e => by cases e) y cy zs q2 hzl).mono fun e w' hh => by
      rcases hh with ⟨k1, -⟩ | ⟨-, e1, q⟩
      · exact absurd k1 hc
      · exact ⟨e1, q⟩
    by_cases hk : checkN n = 0
    · have NY : Hid (∀ U x cx, AtN U (some x) n.arcs → Calls Try.prog 24 #[.agg #[.int .i64 n.nodes, .slice (some x) n.arcs.length cx]] U fun e w' => ∃ K E, e = .returned (.tuple #[.pointer (some ⟨K, 0, none⟩), .int .i64 0]) ∧ StE U.heap.size E w' K n (startT n) (List.replicate n.nodes.toNat 0) ∧ Below U.heap.size U w') := fun U x cx q => (newS_any n (some x) cx U q hroom (fun e => by cases e)).mono fun e w' hh => by
        unfold NewE at hh
        rw [if_pos hk] at hh
        exact hh
      by_cases hl : 2048 < zs.length
      · have eC := code_long hk hl
        rw [eC] at PN
        have hli : (zs.length : Int) > 2048 := by omega
        have hl2 : ¬ (zs.length : Int) ≤ 2048 := by omega
        clear hc hk hl eC
        go_enter Try.func6, Try.ntmps6
        go_upto_region 1 with fail
        generalize w.alloc (.cells #[.int .i64 n.nodes, .slice a n.arcs.length c] 24) = W0 at *
        go_upto_region 2 with (first
          | (go_at_call 9; (with_reducible refine (LN.out W0 B0.out).mono ?_); rintro e U1 ⟨g1, gc1, rfl, q1, q2⟩; have EL := hiddenN q1; have LL := hiddenN (B0.out.trans (q2.mono B0.out.size)); have MM1 := hiddenN q2; clear q1 q2)
          | (go_at_call 23; (with_reducible refine (IN.out U1 LL.out).mono ?_); rintro e Z1 ⟨p1, pc1, rfl, q1, q2⟩; have EZ := hiddenN (EL.out.below q2); have LZ := hiddenN (LL.out.trans (q2.mono LL.out.size)); have MM2 := hiddenN (MM1.out.trans (q2.mono MM1.out.size)); have PZ := hiddenN q1.at; clear q1 q2 LL EL MM1; have CC := hiddenN (PN.out Z1 ⟨g1, 0, none⟩ p1 gc1 pc1 EZ.out.at PZ.out); )
          | (go_at_call 11; (with_reducible refine CC.out.mono ?_); rintro e W1 ⟨rfl, q2⟩; have L1 := hiddenN (LZ.out.trans (q2.mono LZ.out.size)); have M1 := hiddenN (MM2.out.trans (q2.mono MM2.out.size)); have G1 := hiddenN (G0.out.below M1.out); have z0 := G1.out.cell (k := 0) rfl; have z1 := G1.out.cell (k := 1) rfl; simp only [List.getElem_toArray, List.getElem_cons_zero, List.getElem_cons_succ] at z0 z1; clear q2 CC LZ MM2))
        go_upto_region 3 with (first
          | (go_at_call 9; (with_reducible refine (LN.out W1 L1.out).mono ?_); rintro e U2 ⟨g2, gc2, rfl, q1, q2⟩; have EL := hiddenN q1; have LL := hiddenN (L1.out.trans (q2.mono L1.out.size)); have MM1 := hiddenN q2; have CC := hiddenN (NY.out U2 ⟨g2, 0, none⟩ gc2 q1.at); clear q1 q2)
          | (go_at_call 24; (with_reducible refine CC.out.mono ?_); rintro e W2 ⟨K, E, rfl, s2, q2⟩; have L2 := hiddenN (LL.out.trans (q2.mono LL.out.size)); have M2 := hiddenN (MM1.out.trans (q2.mono MM1.out.size)); clear q2 CC LL MM1))
        go_wp2_with (go_at_call 15; (with_reducible refine (AW.out _).mono ?_); rintro e VV ⟨rfl, q2⟩; have LF := hiddenN (L2.out.trans (q2.mono L2.out.size)); clear q2)
        go_ret
        exact ⟨by first | rfl | (simp; done) | (simp; omega), LF.out⟩
      · have eC := code_err hk hl
        have he : ¬ errV n (startT n) zs = 0 := fun e => hc (by rw [eC, e]; rfl)
        have hfl := fires_less n zs (startT n) (List.replicate n.nodes.toNat 0) he
        have hcd : codeV n zs = 100 ∨ codeV n zs = 180 := by rcases err_cases n zs (startT n) with e | e | e <;> rw [eC, e] <;> simp; exact absurd e he
        have hli : ¬ (zs.length : Int) > 2048 := by omega
        have hl2 : (zs.length : Int) ≤ 2048 := by omega
        have q1 : (codeV n zs != 0) = true := by simpa using hc
        have q2' : (codeV n zs == 2) = false := by rcases hcd with e | e <;> rw [e] <;> rfl
        obtain ⟨fr, hfr⟩ : ∃ r, firesN n zs (startT n) (List.replicate n.nodes.toNat 0) = r := ⟨_, rfl⟩
        rw [hfr] at hfl
        have HFR := hiddenN hfr
        have hfi : (fr.1 : Int) < (zs.length : Int) := by omega
        clear hc hk hl eC he hcd hfr hfl
        generalize codeV n zs = cd at *
        go_enter Try.func6, Try.ntmps6
        go_upto_region 1 with fail
        generalize w.alloc (.cells #[.int .i64 n.nodes, .slice a n.arcs.length c] 24) = W0 at *
        go_upto_region 2 with (first
          | (go_at_call 9; (with_reducible refine (LN.out W0 B0.out).mono ?_); rintro e U1 ⟨g1, gc1, rfl, q1, q2⟩; have EL := hiddenN q1; have LL := hiddenN (B0.out.trans (q2.mono B0.out.size)); have MM1 := hiddenN q2; clear q1 q2)
          | (go_at_call 23; (with_reducible refine (IN.out U1 LL.out).mono ?_); rintro e Z1 ⟨p1, pc1, rfl, q1, q2⟩; have EZ := hiddenN (EL.out.below q2); have LZ := hiddenN (LL.out.trans (q2.mono LL.out.size)); have MM2 := hiddenN (MM1.out.trans (q2.mono MM1.out.size)); have PZ := hiddenN q1.at; clear q1 q2 LL EL MM1; have CC := hiddenN (PN.out Z1 ⟨g1, 0, none⟩ p1 gc1 pc1 EZ.out.at PZ.out); )
          | (go_at_call 11; (with_reducible refine CC.out.mono ?_); rintro e W1 ⟨rfl, q2⟩; have L1 := hiddenN (LZ.out.trans (q2.mono LZ.out.size)); have M1 := hiddenN (MM2.out.trans (q2.mono MM2.out.size)); have G1 := hiddenN (G0.out.below M1.out); have z0 := G1.out.cell (k := 0) rfl; have z1 := G1.out.cell (k := 1) rfl; simp only [List.getElem_toArray, List.getElem_cons_zero, List.getElem_cons_succ] at z0 z1; clear q2 CC LZ MM2))
        go_upto_region 3 with (first
          | (go_at_call 9; (with_reducible refine (LN.out W1 L1.out).mono ?_); rintro e U2 ⟨g2, gc2, rfl, q1, q2⟩; have EL := hiddenN q1; have LL := hiddenN (L1.out.trans (q2.mono L1.out.size)); have MM1 := hiddenN q2; have CC := hiddenN (NY.out U2 ⟨g2, 0, none⟩ gc2 q1.at); have hU := hiddenN LL.out.size; clear q1 q2)
          | (go_at_call 24; (with_reducible refine CC.out.mono ?_); rintro e W2 ⟨K, E, rfl, s2, q2⟩; have L2 := hiddenN (LL.out.trans (q2.mono LL.out.size)); have M2 := hiddenN (MM1.out.trans (q2.mono MM1.out.size)); have S2 := hiddenN s2; clear s2; have h12 := hiddenN MM1.out.size; clear q2 CC LL MM1))
        go_upto_region 7 with (first
          | (go_at_call 23; (with_reducible refine (IN.out W2 L2.out).mono ?_); rintro e W3 ⟨p3, pc3, rfl, q1, q2⟩; have P3 := hiddenN q1; have S3 := hiddenN (S2.out.below q2); have L3 := hiddenN (L2.out.trans (q2.mono L2.out.size)); have FR := hiddenN (fires_any W3 K n _ _ S3.out p3 pc3 zs q1.at hzl (fun x hx _ => .inr (by have := (q1.lt x hx).1; have := S2.out.low.2; omega))); rw [HFR.out] at FR; clear q1 q2)
          | (go_at_call 25; (with_reducible refine FR.out.mono ?_); rintro e W4 ⟨rfl, -, m4⟩; have L4 := hiddenN (L3.out.trans ((m4.below S3.out.low.1).mono hU.out)); clear m4 FR))
        go_wp2_with (go_at_call 15; (with_reducible refine (AW.out _).mono ?_); rintro e VV ⟨rfl, q2⟩; have LF := hiddenN (L4.out.trans (q2.mono L4.out.size)); clear q2)
        go_ret
        exact ⟨by first | rfl | (simp; done) | (simp; omega), LF.out⟩
    · have NO : Hid (∀ U x cx, AtN U (some x) n.arcs → Calls Try.prog 24 #[.agg #[.int .i64 n.nodes, .slice (some x) n.arcs.length cx]] U fun e w' => e = .returned (.tuple #[.pointer none, .int .i64 (checkN n)]) ∧ Below U.heap.size U w') := fun U x cx q => (newS_any n (some x) cx U q hroom (fun e => by cases e)).mono fun e w' hh => by
        unfold NewE at hh
        rw [if_neg hk] at hh
        exact hh
      have eC := code_bad (zs := zs) hk
      rw [eC] at PN hc
      have q1 : (checkN n != 0) = true := by simpa using hc
      have q2' : (checkN n == 0) = false := by simpa using hc
      have q3 : (checkN n == checkN n) = true := by simp
      clear hc hk eC
      generalize checkN n = cd at *
      go_enter Try.func6, Try.ntmps6
      go_upto_region 1 with fail
      generalize w.alloc (.cells #[.int .i64 n.nodes, .slice a n.arcs.length c] 24) = W0 at *
      go_upto_region 2 with (first
        | (go_at_call 9; (with_reducible refine (LN.out W0 B0.out).mono ?_); rintro e U1 ⟨g1, gc1, rfl, q1, q2⟩; have EL := hiddenN q1; have LL := hiddenN (B0.out.trans (q2.mono B0.out.size)); have MM1 := hiddenN q2; clear q1 q2)
        | (go_at_call 23; (with_reducible refine (IN.out U1 LL.out).mono ?_); rintro e Z1 ⟨p1, pc1, rfl, q1, q2⟩; have EZ := hiddenN (EL.out.below q2); have LZ := hiddenN (LL.out.trans (q2.mono LL.out.size)); have MM2 := hiddenN (MM1.out.trans (q2.mono MM1.out.size)); have PZ := hiddenN q1.at; clear q1 q2 LL EL MM1; have CC := hiddenN (PN.out Z1 ⟨g1, 0, none⟩ p1 gc1 pc1 EZ.out.at PZ.out); )
        | (go_at_call 11; (with_reducible refine CC.out.mono ?_); rintro e W1 ⟨rfl, q2⟩; have L1 := hiddenN (LZ.out.trans (q2.mono LZ.out.size)); have M1 := hiddenN (MM2.out.trans (q2.mono MM2.out.size)); have G1 := hiddenN (G0.out.below M1.out); have z0 := G1.out.cell (k := 0) rfl; have z1 := G1.out.cell (k := 1) rfl; simp only [List.getElem_toArray, List.getElem_cons_zero, List.getElem_cons_succ] at z0 z1; clear q2 CC LZ MM2))
      go_upto_region 3 with (first
        | (go_at_call 9; (with_reducible refine (LN.out W1 L1.out).mono ?_); rintro e U2 ⟨g2, gc2, rfl, q1, q2⟩; have EL := hiddenN q1; have LL := hiddenN (L1.out.trans (q2.mono L1.out.size)); have MM1 := hiddenN q2; have CC := hiddenN (NO.out U2 ⟨g2, 0, none⟩ gc2 q1.at); clear q1 q2)
        | (go_at_call 24; (with_reducible refine CC.out.mono ?_); rintro e W2 ⟨rfl, q2⟩; have L2 := hiddenN (LL.out.trans (q2.mono LL.out.size)); have M2 := hiddenN (MM1.out.trans (q2.mono MM1.out.size)); clear q2 CC LL MM1))
      go_wp2_with (go_at_call 15; (with_reducible refine (AW.out _).mono ?_); rintro e VV ⟨rfl, q2⟩; have LF := hiddenN (L2.out.trans (q2.mono L2.out.size)); clear q2)
      go_ret
      exact ⟨by first | rfl | (simp; done) | (simp; omega), LF.out⟩
end Go.Proofs.Ytkgekladndkhkaa
