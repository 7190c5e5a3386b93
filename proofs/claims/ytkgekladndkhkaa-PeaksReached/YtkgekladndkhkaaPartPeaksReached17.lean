/- Texts of one chain, laid one behind the other. -/
import Derived.Test.YtkgekladndkhkaaPartPeaksReached16
namespace Go.Proofs.Ytkgekladndkhkaa
open Go.ChangeShapes Go.WideShapes Go.ChangeAt Go.RowKit
theorem along_yes (n : NN) {zs : List Int} (hc : codeV n zs = 0) (U : World) (x : Addr) (y : Option Addr) (cx cy : Nat) (q1 : AtN U (some x) n.arcs) (hroom : n.arcs.length ≤ 4611686018427387904) (q2 : At U y zs) (hzl : zs.length ≤ 4611686018427387904) :
    Calls Try.prog 11 #[.agg #[.int .i64 n.nodes, .slice (some x) n.arcs.length cx], .slice y zs.length cy] U fun e w' => ∃ b off rc, e = .returned (.tuple #[.slice (some ⟨b, off, none⟩) (zs.length + 1) rc, .int .i64 0]) ∧ (∀ k, k < zs.length + 1 → ∃ y yc, w'.cell? ⟨b, off + k, none⟩ = some (.slice y n.arcs.length yc) ∧ At w' y (nthLV (rowsV n (startT n) zs) k)) ∧ Below U.heap.size U w' := (along_any n (some x) cx U q1 hroom (fun e => by cases e) y cy zs q2 hzl).mono fun e w' hh => by
  rcases hh with ⟨-, B, v, e1, -, -, q1, q2⟩ | ⟨k1, -⟩
  · obtain ⟨x, rc, rfl, q3⟩ := q1.ls
    rw [rows_len] at e1
    rcases q3 with q3 | ⟨b, off, rfl, q3⟩
    · exact absurd q3 (rows_ne _ _ _)
    · refine ⟨b, off, rc, e1, fun k hk => ?_, q2⟩
      obtain ⟨y, yc, r1, r2⟩ := q3 k (by rw [rows_len]; exact hk)
      rw [row_lenV (by omega), start_len] at r1
      exact ⟨y, yc, r1, r2⟩
  · exact absurd hc k1
/-- Of the rows that are there the greatest is none less than any, and one of them. -/
theorem most_ge {n : NN} {zs : List Int} {i k : Nat} (hi : i < n.arcs.length) (hk : k ≤ zs.length) : nth (nthLV (rowsV n (startT n) zs) k) i ≤ nth (mostM n zs) i := by
  rw [mostM_nth hi]
  refine maxV_le ?_
  unfold nthLV
  rw [List.getD_eq_getElem?_getD, List.getElem?_eq_getElem (by rw [rows_len]; omega)]
  exact List.getElem_mem _
theorem most_some {n : NN} {zs : List Int} {i : Nat} (hc : codeV n zs = 0) (hi : i < n.arcs.length) : ∃ k, k ≤ zs.length ∧ nth (nthLV (rowsV n (startT n) zs) k) i = nth (mostM n zs) i := by
  rw [mostM_nth hi]
  obtain ⟨r, hr, e⟩ := maxV_hit (R := rowsV n (startT n) zs) (i := i) (rows_ne _ _ _) (fun r hr => by
    obtain ⟨k, hk, e⟩ := List.mem_iff_getElem.1 hr
    rw [rows_len] at hk
    have q := row_few hc (k := k) (by omega) hi
    unfold nthLV at q
    rw [List.getD_eq_getElem?_getD, List.getElem?_eq_getElem (by rw [rows_len]; omega), e] at q
    exact q.1)
  obtain ⟨k, hk, e2⟩ := List.mem_iff_getElem.1 hr
  rw [rows_len] at hk
  refine ⟨k, by omega, ?_⟩
  unfold nthLV
  rw [List.getD_eq_getElem?_getD, List.getElem?_eq_getElem (by rw [rows_len]; omega), e2, e]
  rfl
set_option maxRecDepth 100000 in
set_option maxHeartbeats 16000000 in
theorem peaksReached_walk (n : NN) (a : Option Addr) (c : Nat) (a1 : Option Addr) (len1 cap1 : Nat) (zs : List Int) (w : World) (h : ArgN w a c n) (h1 : Arg w a1 len1 cap1 zs) : Calls Try.prog 7 #[.agg #[.int .i64 n.nodes, .slice a n.arcs.length c], .slice a1 len1 cap1] w fun e w' => e = .returned (.bool true) ∧ Below w.heap.size w w' := by
  obtain rfl := h1.size
  have b0 := (Below.refl w.heap.size w).alloc (Nat.le_refl _) (.cells #[.int .i64 n.nodes, .slice a n.arcs.length c] 24)
  have G0 := hiddenN (blkA_new 24 w #[.int .i64 n.nodes, .slice a n.arcs.length c])
  have B0 := hiddenN b0
  have HA := hiddenN h
  have H1 := hiddenN h1
  have hroom : n.arcs.length ≤ 4611686018427387904 := by have := h.room; omega
  have hzl : zs.length ≤ 4611686018427387904 := by have := h1.reach; omega
  have LN : Hid (∀ U, Below w.heap.size w U → Calls Try.prog 9 #[.agg #[.int .i64 n.nodes, .slice a n.arcs.length c]] U (LentE n U)) := fun U hb => lentNet_any n a c U (HA.out.below hb)
  have AW : Hid (∀ U, Calls Try.prog 15 #[] U fun e w' => e = .returned (.bool true) ∧ Below U.heap.size U w') := fun U => awakeP U
  have z0 := G0.out.cell (k := 0) rfl
  have z1 := G0.out.cell (k := 1) rfl
  simp only [List.getElem_toArray, List.getElem_cons_zero, List.getElem_cons_succ] at z0 z1
  clear b0 h h1
  have IN : Hid (∀ U, Below w.heap.size w U → Calls Try.prog 23 #[.slice a1 zs.length cap1] U (CopiedC U zs.length zs)) := fun U hb => ints_own a1 zs zs.length cap1 U (H1.out.below hb)
  by_cases hc : codeV n zs = 0
  · have hZ2 := (code_zero hc).2.1
    have hmost := (check_sound (code_zero hc).1).most
    have PA : Hid (∀ U x y cx cy, AtN U (some x) n.arcs → At U y zs → Calls Try.prog 11 #[.agg #[.int .i64 n.nodes, .slice (some x) n.arcs.length cx], .slice y zs.length cy] U fun e w' => ∃ b off rc, e = .returned (.tuple #[.slice (some ⟨b, off, none⟩) (zs.length + 1) rc, .int .i64 0]) ∧ (∀ k, k < zs.length + 1 → ∃ y yc, w'.cell? ⟨b, off + k, none⟩ = some (.slice y n.arcs.length yc) ∧ At w' y (nthLV (rowsV n (startT n) zs) k)) ∧ Below U.heap.size U w') := fun U x y cx cy q1 q2 => along_yes n hc U x y cx cy q1 hroom q2 hzl
    have PM : Hid (∀ U x y cx cy, AtN U (some x) n.arcs → At U y zs → Calls Try.prog 18 #[.agg #[.int .i64 n.nodes, .slice (some x) n.arcs.length cx], .slice y zs.length cy] U fun e w' => ∃ ar cr, e = .returned (.tuple #[.slice ar n.arcs.length cr, .int .i64 0]) ∧ At w' ar (mostM n zs) ∧ Below U.heap.size U w') := fun U x y cx cy q1 q2 => (most_anyV n (some x) cx U q1 (fun e => by cases e) y cy zs q2 hzl hroom).mono fun e w' hh => by
      rcases hh with ⟨-, B, ar, cr, e1, -, -, q1, q2⟩ | ⟨k1, -⟩
      · exact ⟨ar, cr, e1, q1.at, q2⟩
      · exact absurd hc k1
    have PH : Hid (∀ U x y cx cy, AtN U (some x) n.arcs → At U y zs → Calls Try.prog 21 #[.agg #[.int .i64 n.nodes, .slice (some x) n.arcs.length cx], .slice y zs.length cy] U fun e w' => e = .returned (.tuple #[.bool (homeB n zs), .int .i64 0]) ∧ Below U.heap.size U w') := fun U x y cx cy q1 q2 => by
      have q := home_anyV n (some x) cx U q1 hroom (fun e => by cases e) y cy zs q2 hzl
      rw [hc] at q
      exact q
    have GE : Hid (∀ i k, i < n.arcs.length → k ≤ zs.length → nth (nthLV (rowsV n (startT n) zs) k) i ≤ nth (mostM n zs) i) := fun i k hi hk => most_ge hi hk
    have SO : Hid (∀ i, i < n.arcs.length → ∃ k, k ≤ zs.length ∧ nth (nthLV (rowsV n (startT n) zs) k) i = nth (mostM n zs) i) := fun i hi => most_some hc hi
    have RL : Hid (∀ k, k ≤ zs.length → (nthLV (rowsV n (startT n) zs) k).length = n.arcs.length) := fun k hk => by rw [row_lenV hk, start_len]
    have HB : Hid (homeB n zs = decide (nthLV (rowsV n (startT n) zs) 0 = nthLV (rowsV n (startT n) zs) zs.length)) := by
      show _ = _
      unfold homeB
      rw [nthLV_rows (Nat.zero_le _), nthLV_rows (Nat.le_refl _), List.take_zero, List.take_length]
      rw [Bool.eq_iff_iff, decide_eq_true_iff, decide_eq_true_iff]
      exact ⟨fun h => h.2, fun h => ⟨hc, h⟩⟩
    have HML := hiddenN (mostM_len n zs)
    have hw1 : IntKind.i64.wrap ((zs.length : Int) + 1 - 1) = (zs.length : Int) := by rw [IntKind.wrap_i64]; omega
    have hw0 : IntKind.i64.wrap (zs.length : Int) = (zs.length : Int) := by rw [IntKind.wrap_i64]; omega
    have q8 : ((n.arcs.length : Int) != (n.arcs.length : Int)) = false := by simp
    have q9 : ((zs.length : Int) + 1 == 0) = false := by simp; omega
    clear hc
    generalize rowsV n (startT n) zs = R at *
    generalize mostM n zs = MM at *
    generalize homeB n zs = hb at *
    go_enter Try.func7, Try.ntmps7
    go_upto_region 1 with fail
    generalize w.alloc (.cells #[.int .i64 n.nodes, .slice a n.arcs.length c] 24) = W0 at *
    go_upto_region 2 with (first
      | (go_at_call 9; (with_reducible refine (LN.out W0 B0.out).mono ?_); rintro e U1 ⟨g1, gc1, rfl, q1, q2⟩; have EL := hiddenN q1; have LL := hiddenN (B0.out.trans (q2.mono B0.out.size)); have MM1 := hiddenN q2; clear q1 q2)
      | (go_at_call 23; (with_reducible refine (IN.out U1 LL.out).mono ?_); rintro e Z1 ⟨p1, pc1, rfl, q1, q2⟩; have EZ := hiddenN (EL.out.below q2); have LZ := hiddenN (LL.out.trans (q2.mono LL.out.size)); have MM2 := hiddenN (MM1.out.trans (q2.mono MM1.out.size)); have PZ := hiddenN q1.at; clear q1 q2 LL EL MM1; have CC := hiddenN (PA.out Z1 ⟨g1, 0, none⟩ p1 gc1 pc1 EZ.out.at PZ.out); )
      | (go_at_call 11; (with_reducible refine CC.out.mono ?_); rintro e W1 ⟨rb, ro, rc, rfl, r1, q2⟩; have L1 := hiddenN (LZ.out.trans (q2.mono LZ.out.size)); have M1 := hiddenN (MM2.out.trans (q2.mono MM2.out.size)); have RR := hiddenN r1; clear r1; have G1 := hiddenN (G0.out.below M1.out); have z0 := G1.out.cell (k := 0) rfl; have z1 := G1.out.cell (k := 1) rfl; simp only [List.getElem_toArray, List.getElem_cons_zero, List.getElem_cons_succ] at z0 z1; clear q2 CC LZ MM2))
    go_upto_region 3 with (first
      | (go_at_call 9; (with_reducible refine (LN.out W1 L1.out).mono ?_); rintro e U2 ⟨g2, gc2, rfl, q1, q2⟩; have EL := hiddenN q1; have LL := hiddenN (L1.out.trans (q2.mono L1.out.size)); have MM1 := hiddenN q2; clear q1 q2)
      | (go_at_call 23; (with_reducible refine (IN.out U2 LL.out).mono ?_); rintro e Z2 ⟨p2, pc2, rfl, q1, q2⟩; have EZ := hiddenN (EL.out.below q2); have LZ := hiddenN (LL.out.trans (q2.mono LL.out.size)); have MM2 := hiddenN (MM1.out.trans (q2.mono MM1.out.size)); have PZ := hiddenN q1.at; clear q1 q2 LL EL MM1; have CC := hiddenN (PM.out Z2 ⟨g2, 0, none⟩ p2 gc2 pc2 EZ.out.at PZ.out); )
      | (go_at_call 18; (with_reducible refine CC.out.mono ?_); rintro e W2 ⟨ar, cr, rfl, r1, q2⟩; have L2 := hiddenN (LZ.out.trans (q2.mono LZ.out.size)); have M2 := hiddenN (MM2.out.trans (q2.mono MM2.out.size)); have MR := hiddenN r1; clear r1; have G2 := hiddenN (G1.out.below M2.out); have z0 := G2.out.cell (k := 0) rfl; have z1 := G2.out.cell (k := 1) rfl; simp only [List.getElem_toArray, List.getElem_cons_zero, List.getElem_cons_succ] at z0 z1; clear q2 CC LZ MM2))
    go_upto_region 4 with (first
      | (go_at_call 9; (with_reducible refine (LN.out W2 L2.out).mono ?_); rintro e U3 ⟨g3, gc3, rfl, q1, q2⟩; have EL := hiddenN q1; have LL := hiddenN (L2.out.trans (q2.mono L2.out.size)); have MM1 := hiddenN q2; clear q1 q2)
      | (go_at_call 23; (with_reducible refine (IN.out U3 LL.out).mono ?_); rintro e Z3 ⟨p3, pc3, rfl, q1, q2⟩; have EZ := hiddenN (EL.out.below q2); have LZ := hiddenN (LL.out.trans (q2.mono LL.out.size)); have MM2 := hiddenN (MM1.out.trans (q2.mono MM1.out.size)); have PZ := hiddenN q1.at; clear q1 q2 LL EL MM1; have CC := hiddenN (PH.out Z3 ⟨g3, 0, none⟩ p3 gc3 pc3 EZ.out.at PZ.out); )
      | (go_at_call 21; (with_reducible refine CC.out.mono ?_); rintro e W3 ⟨rfl, q2⟩; have L3 := hiddenN (LZ.out.trans (q2.mono LZ.out.size)); have M3 := hiddenN (MM2.out.trans (q2.mono MM2.out.size)); have G3 := hiddenN (G2.out.below M3.out); have z0 := G3.out.cell (k := 0) rfl; have z1 := G3.out.cell (k := 1) rfl; simp only [List.getElem_toArray, List.getElem_cons_zero, List.getElem_cons_succ] at z0 z1; clear q2 CC LZ MM2))
    have RR3 : Hid (∀ k, k < zs.length + 1 → ∃ y yc, W3.cell? ⟨rb, ro + k, none⟩ = some (.slice y n.arcs.length yc) ∧ At W3 y (nthLV R k)) := fun k hk => by
      obtain ⟨y, yc, h1, h2⟩ := RR.out k hk
      exact ⟨y, yc, cellN_later M3.out (cellN_later M2.out h1), (h2.below M2.out).below M3.out⟩
    have MR3 := hiddenN (MR.out.below M3.out)
    clear PA PM PH LN IN G0 G1 G2 RR MR M1 M2 M3 L1 L2
    go_upto_region 10 with fail
    go_wp2
    go_loopg [11] n.arcs.length (fun gk u wr => ∃ i : Nat, i ≤ n.arcs.length ∧ gk = n.arcs.length - i ∧ u = .int .i64 (i : Int) ∧ Below W3.heap.size W3 wr)
    case atStart => exact ⟨0, Nat.zero_le _, rfl, rfl, Below.refl _ _⟩
    case round =>
      obtain ⟨i, hi, rfl, rfl, hbw⟩ := hrel
      obtain ⟨wA, hwA⟩ : ∃ q : World, q = wr := ⟨_, rfl⟩
      subst hwA
      have HA3 := hiddenN hbw
      clear hbw
      by_cases hlt : i < n.arcs.length
      · have hii : (i : Int) < (n.arcs.length : Int) := by omega
        obtain ⟨mb, mo, rfl, hcm⟩ : ∃ b off, ar = some ⟨b, off, none⟩ ∧ ∀ k, k < MM.length → W3.cell? ⟨b, off + k, none⟩ = some (.int .i64 (nth MM k)) := by
          rcases MR3.out with e | ⟨b, off, e, hc⟩
          · have := HML.out; rw [e] at this; simp at this; omega
          · exact ⟨b, off, e, hc⟩
        have m0 := cellN_later HA3.out (hcm i (by rw [HML.out]; exact hlt))
        obtain ⟨mi, hmi⟩ : ∃ q, nth MM i = q := ⟨_, rfl⟩
        rw [hmi] at m0
        have GEi : Hid (∀ k, k ≤ zs.length → nth (nthLV R k) i ≤ mi) := fun k hk => by rw [← hmi]; exact GE.out i k hlt hk
        have SOi : Hid (∃ k, k ≤ zs.length ∧ nth (nthLV R k) i = mi) := by
          obtain ⟨k, h1, h2⟩ := SO.out i hlt
          exact ⟨k, h1, by rw [h2, hmi]⟩
        clear hcm hmi
        go_wp2
        go_loopg [12, 13] (zs.length + 1) (fun gk u12 u13 wq => ∃ (k : Nat) (re : Bool), k ≤ zs.length + 1 ∧ gk = zs.length + 1 - k ∧ u13 = .int .i64 (k : Int) ∧ u12 = .bool re ∧ (re = false → ∀ j, j < k → nth (nthLV R j) i ≠ mi) ∧ Below wA.heap.size wA wq)
        case atStart => exact ⟨0, false, Nat.zero_le _, rfl, rfl, rfl, fun _ j hj => absurd hj (Nat.not_lt_zero _), Below.refl _ _⟩
        case round =>
          obtain ⟨k, re, hk, rfl, rfl, rfl, hre, hbq⟩ := hrel
          have HRE := hiddenN hre
          have HQ := hiddenN hbq
          have HQ3 := hiddenN (HA3.out.trans (hbq.mono HA3.out.size))
          clear hre hbq
          by_cases hkl : k < zs.length + 1
          · have hki : (k : Int) < (zs.length : Int) + 1 := by omega
            obtain ⟨ry, rcy, c0, c1⟩ := RR3.out k hkl
            have d0 := cellN_later HQ3.out c0
            rcases c1.below HQ3.out with e | ⟨yb, yo, rfl, hcy⟩
            · have := RL.out k (by omega); rw [e] at this; simp at this; omega
            have d1 := hcy i (by rw [RL.out k (by omega)]; exact hlt)
            have m1 := cellN_later HQ.out m0
            have hge := GEi.out k (by omega)
            obtain ⟨yk, hyk⟩ : ∃ q, nth (nthLV R k) i = q := ⟨_, rfl⟩
            rw [hyk] at d1 hge
            have HYK := hiddenN hyk
            have g1 : decide (mi < yk) = false := by simp; omega
            clear c0 c1 hcy hyk
            go_upto_region 17 with fail
            go_quiet (fail)
            go_upto_region 19 with fail
            cases re with
            | true =>
              go_quiet (fail)
              go_wp2
              go_roundg (zs.length + 1 - (k + 1))
              case measure => omega
              case rel => exact ⟨k + 1, true, by omega, rfl, by go_num, rfl, (fun e => by cases e), by first | exact drewB HQ.out _ | exact drewB (drewB HQ.out _) _⟩
            | false =>
              by_cases hm : yk = mi
              · have e1 : (yk == mi) = true := by simpa using hm
                clear hm
                go_quiet (fail)
                go_wp2
                go_roundg (zs.length + 1 - (k + 1))
                case measure => omega
                case rel => exact ⟨k + 1, true, by omega, rfl, by go_num, rfl, (fun e => by cases e), by first | exact drewB HQ.out _ | exact drewB (drewB HQ.out _) _⟩
              · have e1 : (yk == mi) = false := by simpa using hm
                have HNE : Hid (∀ j, j < k + 1 → nth (nthLV R j) i ≠ mi) := fun j hj => by
                  by_cases e : j = k
                  · subst e; rw [HYK.out]; exact hm
                  · exact HRE.out rfl j (by omega)
                clear hm
                go_quiet (fail)
                go_wp2
                go_roundg (zs.length + 1 - (k + 1))
                case measure => omega
                case rel => exact ⟨k + 1, false, by omega, rfl, by go_num, rfl, fun _ => HNE.out, by first | exact drewB HQ.out _ | exact drewB (drewB HQ.out _) _⟩
          · have hki : ¬ (k : Int) < (zs.length : Int) + 1 := by omega
            cases re with
            | true =>
              go_wp2
              go_roundg (n.arcs.length - (i + 1))
              case measure => omega
              case rel => exact ⟨i + 1, by omega, rfl, by go_num, HQ3.out⟩
            | false =>
              obtain ⟨j, hj, e⟩ := SOi.out
              exact absurd e (HRE.out rfl j (by omega))
      · have hii : ¬ (i : Int) < (n.arcs.length : Int) := by omega
        obtain ⟨y0, yc0, c0, a0⟩ := RR3.out 0 (by omega)
        obtain ⟨yL, ycL, cL, aL⟩ := RR3.out zs.length (by omega)
        rw [Nat.add_zero] at c0
        have C0 := hiddenN c0
        have CL := hiddenN cL
        have A0 := hiddenN a0
        have AL := hiddenN aL
        have R0L := hiddenN (RL.out 0 (by omega))
        have RLL := hiddenN (RL.out zs.length (by omega))
        have hzi : (zs.length : Int) < (zs.length : Int) + 1 := by omega
        have hzp : (0 : Int) < (zs.length : Int) + 1 := by omega
        have L3A := hiddenN (L3.out.trans (HA3.out.mono L3.out.size))
        clear c0 cL a0 aL
        go_upto_region 22 with fail
        clear q8 q9
        refine wp_region_gen [] (fun d i u z => match i with
            | 0 => z = .bool true
            | 1 => z = .bool true
            | 2 => z = .bool hb
            | 3 => z = .slice (some ⟨rb, ro, none⟩) (zs.length + 1) rc
            | 4 => z = .pointer (some ⟨rb, ro, none⟩)
            | 5 => z = .slice y0 n.arcs.length yc0
            | 6 => z = .slice (some ⟨rb, ro, none⟩) (zs.length + 1) rc
            | 7 => z = .slice (some ⟨rb, ro, none⟩) (zs.length + 1) rc
            | 8 => z = .int .i64 ((zs.length : Int) + 1)
            | 9 => z = .int .i64 (zs.length : Int)
            | 10 => z = .pointer (some ⟨rb, ro + zs.length, none⟩)
            | 11 => z = .slice yL n.arcs.length ycL
            | 12 => z = .bool (decide (nthLV R 0 = nthLV R zs.length))
            | 13 => z = .bool true
            | 14 => z = .bool true
            | 15 => z = .bool true
            | _ => True) (fun _ u => Below wA.heap.size wA u) (by kernel_rfl) (by kernel_rfl) (by kernel_rfl) ?_ ?_ ?_ ?_ ?_ ?_ (by kernel_rfl)
        · intro d i w v w' h hb
          match i, h with
          | 0, h => exact h
          | 1, h => exact h
          | 2, h => exact h
          | 3, h => exact h
          | 4, h => exact h
          | 5, h => exact h
          | 6, h => exact h
          | 7, h => exact h
          | 8, h => exact h
          | 9, h => exact h
          | 10, h => exact h
          | 11, h => exact h
          | 12, h => exact h
          | 13, h => exact h
          | 14, h => exact h
          | 15, h => exact h
          | _ + 16, _ => trivial
        · intro d u u' h hb
          exact h.trans (hb.mono h.size)
        · exact Below.refl _ _
        · intro d i o ρ w' hm ho hf hg hC hcs hfs hfr hdep
          match i, hm, ho, hf, hg, hfr, hdep with
          | 0, _, ho, hf, hg, hfr, hdep =>
            simp only [gTA, gCZ, gSI] at ho
            subst ho
            refine ⟨fun _ => ?_, fun hw => absurd (show true = false from hw) (by decide)⟩
            simp [go_sem, hfs]
            exact ⟨rfl, (AW.out w').mono fun e w'' ⟨e1, b⟩ => ⟨_, e1, b, rfl⟩⟩
          | 1, _, ho, hf, hg, hfr, hdep =>
            simp only [gTA, gCZ, gCS, gSI] at ho
            subst ho
            refine ⟨fun _ => ?_, fun hw => absurd (show true = false from hw) (by decide)⟩
            have d0 : ρ (.tmp 110) = .bool true := hdep 0 110 (by kernel_rfl) (by kernel_rfl)
            simp [go_sem, d0]
            exact ⟨Below.refl _ _, rfl⟩
          | 2, _, ho, hf, hg, hfr, hdep =>
            simp only [gTA, gCZ, gCS, gSI] at ho
            subst ho
            have gd : ρ (.tmp 111) = .bool true := hdep 1 111 (by kernel_rfl) (by kernel_rfl)
            refine ⟨fun _ => ?_, fun hw => absurd (show (match ρ (.tmp 111) with | .bool c => c == true | _ => false) = false from hw) (by rw [gd]; decide)⟩
            clear gd
            have ts : ρ (.tmp 9) = .bool hb := hfr 9 (by kernel_rfl)
            simp [go_sem, ts]
            exact ⟨Below.refl _ _, rfl⟩
          | 3, _, ho, hf, hg, hfr, hdep =>
            simp only [gTA, gCZ, gCS, gSI] at ho
            subst ho
            have gd : ρ (.tmp 111) = .bool true := hdep 1 111 (by kernel_rfl) (by kernel_rfl)
            refine ⟨fun _ => ?_, fun hw => absurd (show (match ρ (.tmp 111) with | .bool c => c == true | _ => false) = false from hw) (by rw [gd]; decide)⟩
            clear gd
            have ts : ρ (.tmp 5) = .slice (some ⟨rb, ro, none⟩) (zs.length + 1) rc := hfr 5 (by kernel_rfl)
            simp [go_sem, ts]
            exact ⟨Below.refl _ _, rfl⟩
          | 4, _, ho, hf, hg, hfr, hdep =>
            simp only [gTA, gCZ, gCS, gSI] at ho
            subst ho
            have gd : ρ (.tmp 111) = .bool true := hdep 1 111 (by kernel_rfl) (by kernel_rfl)
            refine ⟨fun _ => ?_, fun hw => absurd (show (match ρ (.tmp 111) with | .bool c => c == true | _ => false) = false from hw) (by rw [gd]; decide)⟩
            clear gd
            have d0 : ρ (.tmp 113) = .slice (some ⟨rb, ro, none⟩) (zs.length + 1) rc := hdep 3 113 (by kernel_rfl) (by kernel_rfl)
            simp [go_sem, d0, hcs, hzp]
            exact ⟨Below.refl _ _, rfl⟩
          | 5, _, ho, hf, hg, hfr, hdep =>
            simp only [gTA, gCZ, gCS, gSI] at ho
            subst ho
            have gd : ρ (.tmp 111) = .bool true := hdep 1 111 (by kernel_rfl) (by kernel_rfl)
            refine ⟨fun _ => ?_, fun hw => absurd (show (match ρ (.tmp 111) with | .bool c => c == true | _ => false) = false from hw) (by rw [gd]; decide)⟩
            clear gd
            have kc := cellN_later (HA3.out.trans (hC.mono HA3.out.size)) C0.out
            have d0 : ρ (.tmp 114) = .pointer (some ⟨rb, ro, none⟩) := hdep 4 114 (by kernel_rfl) (by kernel_rfl)
            simp [go_sem, d0, kc]
            exact ⟨Below.refl _ _, rfl⟩
          | 6, _, ho, hf, hg, hfr, hdep =>
            simp only [gTA, gCZ, gCS, gSI] at ho
            subst ho
            have gd : ρ (.tmp 111) = .bool true := hdep 1 111 (by kernel_rfl) (by kernel_rfl)
            refine ⟨fun _ => ?_, fun hw => absurd (show (match ρ (.tmp 111) with | .bool c => c == true | _ => false) = false from hw) (by rw [gd]; decide)⟩
            clear gd
            have ts : ρ (.tmp 5) = .slice (some ⟨rb, ro, none⟩) (zs.length + 1) rc := hfr 5 (by kernel_rfl)
            simp [go_sem, ts]
            exact ⟨Below.refl _ _, rfl⟩
          | 7, _, ho, hf, hg, hfr, hdep =>
            simp only [gTA, gCZ, gCS, gSI] at ho
            subst ho
            have gd : ρ (.tmp 111) = .bool true := hdep 1 111 (by kernel_rfl) (by kernel_rfl)
            refine ⟨fun _ => ?_, fun hw => absurd (show (match ρ (.tmp 111) with | .bool c => c == true | _ => false) = false from hw) (by rw [gd]; decide)⟩
            clear gd
            have ts : ρ (.tmp 5) = .slice (some ⟨rb, ro, none⟩) (zs.length + 1) rc := hfr 5 (by kernel_rfl)
            simp [go_sem, ts]
            exact ⟨Below.refl _ _, rfl⟩
          | 8, _, ho, hf, hg, hfr, hdep =>
            simp only [gTA, gCZ, gCS, gSI] at ho
            subst ho
            have gd : ρ (.tmp 111) = .bool true := hdep 1 111 (by kernel_rfl) (by kernel_rfl)
            refine ⟨fun _ => ?_, fun hw => absurd (show (match ρ (.tmp 111) with | .bool c => c == true | _ => false) = false from hw) (by rw [gd]; decide)⟩
            clear gd
            have d0 : ρ (.tmp 117) = .slice (some ⟨rb, ro, none⟩) (zs.length + 1) rc := hdep 7 117 (by kernel_rfl) (by kernel_rfl)
            simp [go_sem, d0]
            exact ⟨Below.refl _ _, rfl⟩
          | 9, _, ho, hf, hg, hfr, hdep =>
            simp only [gTA, gCZ, gCS, gSI] at ho
            subst ho
            have gd : ρ (.tmp 111) = .bool true := hdep 1 111 (by kernel_rfl) (by kernel_rfl)
            refine ⟨fun _ => ?_, fun hw => absurd (show (match ρ (.tmp 111) with | .bool c => c == true | _ => false) = false from hw) (by rw [gd]; decide)⟩
            clear gd
            have d0 : ρ (.tmp 118) = .int .i64 ((zs.length : Int) + 1) := hdep 8 118 (by kernel_rfl) (by kernel_rfl)
            simp [go_sem, d0, hcs, hw0]
            exact ⟨Below.refl _ _, rfl⟩
          | 10, _, ho, hf, hg, hfr, hdep =>
            simp only [gTA, gCZ, gCS, gSI] at ho
            subst ho
            have gd : ρ (.tmp 111) = .bool true := hdep 1 111 (by kernel_rfl) (by kernel_rfl)
            refine ⟨fun _ => ?_, fun hw => absurd (show (match ρ (.tmp 111) with | .bool c => c == true | _ => false) = false from hw) (by rw [gd]; decide)⟩
            clear gd
            have d0 : ρ (.tmp 116) = .slice (some ⟨rb, ro, none⟩) (zs.length + 1) rc := hdep 6 116 (by kernel_rfl) (by kernel_rfl)
            have d1 : ρ (.tmp 119) = .int .i64 (zs.length : Int) := hdep 9 119 (by kernel_rfl) (by kernel_rfl)
            simp [go_sem, d0, d1, hzi]
            exact ⟨Below.refl _ _, rfl⟩
          | 11, _, ho, hf, hg, hfr, hdep =>
            simp only [gTA, gCZ, gCS, gSI] at ho
            subst ho
            have gd : ρ (.tmp 111) = .bool true := hdep 1 111 (by kernel_rfl) (by kernel_rfl)
            refine ⟨fun _ => ?_, fun hw => absurd (show (match ρ (.tmp 111) with | .bool c => c == true | _ => false) = false from hw) (by rw [gd]; decide)⟩
            clear gd
            have kc := cellN_later (HA3.out.trans (hC.mono HA3.out.size)) CL.out
            have d0 : ρ (.tmp 120) = .pointer (some ⟨rb, ro + zs.length, none⟩) := hdep 10 120 (by kernel_rfl) (by kernel_rfl)
            simp [go_sem, d0, kc]
            exact ⟨Below.refl _ _, rfl⟩
          | 12, _, ho, hf, hg, hfr, hdep =>
            simp only [gTA, gCZ, gCS, gSI] at ho
            subst ho
            have gd : ρ (.tmp 111) = .bool true := hdep 1 111 (by kernel_rfl) (by kernel_rfl)
            refine ⟨fun _ => ?_, fun hw => absurd (show (match ρ (.tmp 111) with | .bool c => c == true | _ => false) = false from hw) (by rw [gd]; decide)⟩
            clear gd
            have t0 : ρ (.tmp 115) = .slice y0 n.arcs.length yc0 := hdep 5 115 (by kernel_rfl) (by kernel_rfl)
            have t1 : ρ (.tmp 121) = .slice yL n.arcs.length ycL := hdep 11 121 (by kernel_rfl) (by kernel_rfl)
            simp [go_sem, t0, t1, hfs]
            exact ⟨rfl, (same_intsV y0 yL yc0 ycL n.arcs.length _ _ w' R0L.out RLL.out hroom (A0.out.below (HA3.out.trans (hC.mono HA3.out.size))) (AL.out.below (HA3.out.trans (hC.mono HA3.out.size)))).mono fun e w'' ⟨e1, m, e2⟩ => ⟨_, e1, by rw [e2]; exact drewB (Below.refl _ _) m, rfl⟩⟩
          | 13, _, ho, hf, hg, hfr, hdep =>
            simp only [gTA, gCZ, gCS, gSI] at ho
            subst ho
            have gd : ρ (.tmp 111) = .bool true := hdep 1 111 (by kernel_rfl) (by kernel_rfl)
            refine ⟨fun _ => ?_, fun hw => absurd (show (match ρ (.tmp 111) with | .bool c => c == true | _ => false) = false from hw) (by rw [gd]; decide)⟩
            clear gd
            have t0 : ρ (.tmp 112) = .bool hb := hdep 2 112 (by kernel_rfl) (by kernel_rfl)
            have t1 : ρ (.tmp 122) = .bool (decide (nthLV R 0 = nthLV R zs.length)) := hdep 12 122 (by kernel_rfl) (by kernel_rfl)
            rw [← HB.out] at t1
            simp [go_sem, t0, t1]
            exact ⟨Below.refl _ _, rfl⟩
          | 14, _, ho, hf, hg, hfr, hdep =>
            simp only [gTA, gCZ, gCS, gSI] at ho
            subst ho
            refine ⟨fun _ => ?_, fun hw => absurd (show true = false from hw) (by decide)⟩
            have d0 : ρ (.tmp 111) = .bool true := hdep 1 111 (by kernel_rfl) (by kernel_rfl)
            have d1 : ρ (.tmp 123) = .bool true := hdep 13 123 (by kernel_rfl) (by kernel_rfl)
            simp [go_sem, d0, d1]
            exact ⟨Below.refl _ _, rfl⟩
          | 15, _, ho, hf, hg, hfr, hdep =>
            simp only [gTA, gCZ, gCS, gSI] at ho
            subst ho
            refine ⟨fun _ => ?_, fun hw => absurd (show true = false from hw) (by decide)⟩
            have d0 : ρ (.tmp 124) = .bool true := hdep 14 124 (by kernel_rfl) (by kernel_rfl)
            simp [go_sem, d0]
            exact ⟨Below.refl _ _, rfl⟩
          | n + 16, _, ho, _, _, _, _ => simp at ho
        · intro d i o ρ w' hm ho h0 hf hg hC hcs hfs hfr hdep
          exact absurd hm (by simp)
        · intro V w9 hC9 hS
          have e15 : V 15 = .bool true := hS 15 (by decide) (by intro h; cases h)
          simp only [puts, e15]
          simp only [Act.put, List.setIfInBounds_toArray, List.set_cons_zero, List.set_cons_succ]
          clear hS e15
          go_wp2
          go_ret
          exact ⟨by first | rfl | simp, L3A.out.trans (hC9.mono L3A.out.size)⟩
  · have q1 : (codeV n zs != 0) = true := by simpa using hc
    have q2' : (codeV n zs != codeV n zs) = false := by simp
    have PA : Hid (∀ U x y cx cy, AtN U (some x) n.arcs → At U y zs → Calls Try.prog 11 #[.agg #[.int .i64 n.nodes, .slice (some x) n.arcs.length cx], .slice y zs.length cy] U fun e w' => e = .returned (.tuple #[.slice none 0 0, .int .i64 (codeV n zs)]) ∧ Below U.heap.size U w') := fun U x y cx cy q1 q2 => (along_any n (some x) cx U q1 hroom (fun e => by cases e) y cy zs q2 hzl).mono fun e w' hh => by
      rcases hh with ⟨k1, -⟩ | ⟨-, e1, q⟩
      · exact absurd k1 hc
      · exact ⟨e1, q⟩
    have PM : Hid (∀ U x y cx cy, AtN U (some x) n.arcs → At U y zs → Calls Try.prog 18 #[.agg #[.int .i64 n.nodes, .slice (some x) n.arcs.length cx], .slice y zs.length cy] U fun e w' => e = .returned (.tuple #[.slice none 0 0, .int .i64 (codeV n zs)]) ∧ Below U.heap.size U w') := fun U x y cx cy q1 q2 => (most_anyV n (some x) cx U q1 (fun e => by cases e) y cy zs q2 hzl hroom).mono fun e w' hh => by
      rcases hh with ⟨k1, -⟩ | ⟨-, e1, q⟩
      · exact absurd k1 hc
      · exact ⟨e1, q⟩
    have PH : Hid (∀ U x y cx cy, AtN U (some x) n.arcs → At U y zs → Calls Try.prog 21 #[.agg #[.int .i64 n.nodes, .slice (some x) n.arcs.length cx], .slice y zs.length cy] U fun e w' => e = .returned (.tuple #[.bool false, .int .i64 (codeV n zs)]) ∧ Below U.heap.size U w') := fun U x y cx cy q1 q2 => by
      have q := home_anyV n (some x) cx U q1 hroom (fun e => by cases e) y cy zs q2 hzl
      have hb : homeB n zs = false := by unfold homeB; simp [hc]
      rw [hb] at q
      exact q
    clear hc
    generalize codeV n zs = cd at *
    go_enter Try.func7, Try.ntmps7
    go_upto_region 1 with fail
    generalize w.alloc (.cells #[.int .i64 n.nodes, .slice a n.arcs.length c] 24) = W0 at *
    go_upto_region 2 with (first
      | (go_at_call 9; (with_reducible refine (LN.out W0 B0.out).mono ?_); rintro e U1 ⟨g1, gc1, rfl, q1, q2⟩; have EL := hiddenN q1; have LL := hiddenN (B0.out.trans (q2.mono B0.out.size)); have MM1 := hiddenN q2; clear q1 q2)
      | (go_at_call 23; (with_reducible refine (IN.out U1 LL.out).mono ?_); rintro e Z1 ⟨p1, pc1, rfl, q1, q2⟩; have EZ := hiddenN (EL.out.below q2); have LZ := hiddenN (LL.out.trans (q2.mono LL.out.size)); have MM2 := hiddenN (MM1.out.trans (q2.mono MM1.out.size)); have PZ := hiddenN q1.at; clear q1 q2 LL EL MM1; have CC := hiddenN (PA.out Z1 ⟨g1, 0, none⟩ p1 gc1 pc1 EZ.out.at PZ.out); )
      | (go_at_call 11; (with_reducible refine CC.out.mono ?_); rintro e W1 ⟨rfl, q2⟩; have L1 := hiddenN (LZ.out.trans (q2.mono LZ.out.size)); have M1 := hiddenN (MM2.out.trans (q2.mono MM2.out.size)); have G1 := hiddenN (G0.out.below M1.out); have z0 := G1.out.cell (k := 0) rfl; have z1 := G1.out.cell (k := 1) rfl; simp only [List.getElem_toArray, List.getElem_cons_zero, List.getElem_cons_succ] at z0 z1; clear q2 CC LZ MM2))
    go_upto_region 3 with (first
      | (go_at_call 9; (with_reducible refine (LN.out W1 L1.out).mono ?_); rintro e U2 ⟨g2, gc2, rfl, q1, q2⟩; have EL := hiddenN q1; have LL := hiddenN (L1.out.trans (q2.mono L1.out.size)); have MM1 := hiddenN q2; clear q1 q2)
      | (go_at_call 23; (with_reducible refine (IN.out U2 LL.out).mono ?_); rintro e Z2 ⟨p2, pc2, rfl, q1, q2⟩; have EZ := hiddenN (EL.out.below q2); have LZ := hiddenN (LL.out.trans (q2.mono LL.out.size)); have MM2 := hiddenN (MM1.out.trans (q2.mono MM1.out.size)); have PZ := hiddenN q1.at; clear q1 q2 LL EL MM1; have CC := hiddenN (PM.out Z2 ⟨g2, 0, none⟩ p2 gc2 pc2 EZ.out.at PZ.out); )
      | (go_at_call 18; (with_reducible refine CC.out.mono ?_); rintro e W2 ⟨rfl, q2⟩; have L2 := hiddenN (LZ.out.trans (q2.mono LZ.out.size)); have M2 := hiddenN (MM2.out.trans (q2.mono MM2.out.size)); have G2 := hiddenN (G1.out.below M2.out); have z0 := G2.out.cell (k := 0) rfl; have z1 := G2.out.cell (k := 1) rfl; simp only [List.getElem_toArray, List.getElem_cons_zero, List.getElem_cons_succ] at z0 z1; clear q2 CC LZ MM2))
    go_upto_region 4 with (first
      | (go_at_call 9; (with_reducible refine (LN.out W2 L2.out).mono ?_); rintro e U3 ⟨g3, gc3, rfl, q1, q2⟩; have EL := hiddenN q1; have LL := hiddenN (L2.out.trans (q2.mono L2.out.size)); have MM1 := hiddenN q2; clear q1 q2)
      | (go_at_call 23; (with_reducible refine (IN.out U3 LL.out).mono ?_); rintro e Z3 ⟨p3, pc3, rfl, q1, q2⟩; have EZ := hiddenN (EL.out.below q2); have LZ := hiddenN (LL.out.trans (q2.mono LL.out.size)); have MM2 := hiddenN (MM1.out.trans (q2.mono MM1.out.size)); have PZ := hiddenN q1.at; clear q1 q2 LL EL MM1; have CC := hiddenN (PH.out Z3 ⟨g3, 0, none⟩ p3 gc3 pc3 EZ.out.at PZ.out); )
      | (go_at_call 21; (with_reducible refine CC.out.mono ?_); rintro e W3 ⟨rfl, q2⟩; have L3 := hiddenN (LZ.out.trans (q2.mono LZ.out.size)); have M3 := hiddenN (MM2.out.trans (q2.mono MM2.out.size)); have G3 := hiddenN (G2.out.below M3.out); have z0 := G3.out.cell (k := 0) rfl; have z1 := G3.out.cell (k := 1) rfl; simp only [List.getElem_toArray, List.getElem_cons_zero, List.getElem_cons_succ] at z0 z1; clear q2 CC LZ MM2))
    go_wp2_with (go_at_call 15; (with_reducible refine (AW.out _).mono ?_); rintro e VV ⟨rfl, q2⟩; have LF := hiddenN (L3.out.trans (q2.mono L3.out.size)); clear q2)
    go_ret
    exact ⟨by first | rfl | simp, LF.out⟩
end Go.Proofs.Ytkgekladndkhkaa
