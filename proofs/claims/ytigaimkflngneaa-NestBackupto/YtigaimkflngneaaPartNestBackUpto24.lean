/- Texts of one chain, laid one behind the other. -/
import Derived.Test.YtigaimkflngneaaPartNestBackUpto22
import Derived.Test.YtigaimkflngneaaPartNestBackUpto23
import Derived.Deep.QuietTactic
import Derived.BigQuiet
namespace Go.Proofs.Ytigaimkflngneaa
open Go.ChangeShapes Go.WideShapes Go.ChangeAt Go.RowKit Go.Shelf
set_option maxRecDepth 100000 in
set_option maxHeartbeats 16000000 in
theorem nestBack_walk (a : Option Addr) (len cap : Nat) (zs : List Int) (w : World) (h : Arg w a len cap zs) (hlen : len ≤ 2097152) : Calls Try.prog 5 #[.slice a len cap] w fun e w' => e = .returned (.bool true) ∧ Below w.heap.size w w' := by
  have AW := hiddenN awake16
  have IX := hiddenN (ints_any a zs len cap w h)
  unfold Copied at IX
  obtain ⟨RE, hRE⟩ : ∃ Q : Ending → World → Prop, (fun e w' => e = .returned (.bool true) ∧ Below w.heap.size w w') = Q := ⟨_, rfl⟩
  rw [hRE]
  have HRE := hiddenN hRE
  have HA := hiddenN h.lies
  have HZ := hiddenN h.size
  have hleI : (len : Int) ≤ 2097152 := by omega
  have RU : Hid (∀ u x cc, At u x zs → Calls Try.prog 8 #[.slice x len cc] u (RunE zs u)) := fun u x cc hu => by
    have := runsZ_any x zs cc u hu (by rw [HZ.out]; omega)
    rwa [HZ.out] at this
  have RY := hiddenN (runs_is zs)
  have hfew : (runsY zs).length ≤ 2097152 := by
    have := RY.out.few
    rw [HZ.out] at this
    omega
  have CG := hiddenN (chk_good RY.out)
  have FX : Hid (flatsY (runsY zs) = zs) := RY.out.flat
  have TX : Hid (sumY (runsY zs) = len) := by show _ = _; unfold sumY; rw [FX.out, HZ.out]
  unfold RunE at RU
  obtain ⟨R, hR⟩ : ∃ q, runsY zs = q := ⟨_, rfl⟩
  rw [hR] at RU hfew RY CG FX TX
  obtain ⟨n, hn⟩ : ∃ q, R.length = q := ⟨_, rfl⟩
  rw [hn] at RU hfew
  have HNR := hiddenN hn
  have hnI : (n : Int) ≤ 2097152 := by omega
  have FL : Hid (∀ u x cc, AtY u x R → Calls Try.prog 13 #[.slice x n cc] u (FlaE R u)) := fun u x cc hu => by
    have := flatZ_any x R cc u hu (by rw [hn]; omega)
    rwa [hn] at this
  unfold FlaE at FL
  clear hRE h hR hn
  go_enter Try.func5, Try.ntmps5
  go_upto_region 2 with (first
    | (go_at_call 8; (with_reducible refine (RU.out V1 _ _ A1.out).mono ?_); rintro e V2 ⟨d2, c2, rfl, hc, b⟩; have P2 := hiddenN hc; have L2 := hiddenN (L1.out.trans (b.mono L1.out.size)); clear hc b)
    | (go_at_call 17; (with_reducible refine (IX.out).mono ?_); rintro e V1 ⟨d1, c1, rfl, ha, b, -, -, -⟩; have A1 := hiddenN ha; have L1 := hiddenN b; clear ha b))
  clear A1 L1 IX RU
  have Y2 := hiddenN P2.out.at
  obtain ⟨g0, hg0⟩ : ∃ q, decide (len ≤ 2048) = q := ⟨_, rfl⟩
  have HG0 := hiddenN hg0
  have hgI : decide ((len : Int) ≤ 2048) = g0 := by rw [← hg0]; simp; omega
  go_upto_region 3 with fail
  clear hg0
  go_upto_region 5 with fail
  try rw [hgI]
  clear hgI
  go_loopg [4, 6] len (fun gk bv iv wr => ∃ (k : Nat), k ≤ len ∧ gk = len - k ∧ iv = .int .i64 (k : Int) ∧ bv = .bool (g0 && (zs.take k).all inY) ∧ Below V2.heap.size V2 wr)
  case atStart => exact ⟨0, Nat.zero_le _, rfl, rfl, by simp, Below.refl _ _⟩
  case round =>
    obtain ⟨k, hk, rfl, rfl, rfl, hb⟩ := hrel
    have HB := hiddenN hb
    clear hb
    by_cases hlt : k < len
    · have hkz : k < zs.length := by rw [HZ.out]; exact hlt
      have hki : (k : Int) < (len : Int) := by omega
      rcases HA.out.below (L2.out.trans (HB.out.mono L2.out.size)) with e | ⟨ab, ao, rfl, hcl⟩
      · rw [e] at hkz; exact absurd hkz (Nat.not_lt_zero _)
      have c0 := hcl k hkz
      have HNX := hiddenN (all_take hkz)
      clear hcl
      generalize nth zs k = z at *
      obtain ⟨bb, hbb⟩ : ∃ q, (zs.take k).all inY = q := ⟨_, rfl⟩
      rw [hbb] at HNX ⊢
      clear hbb
      by_cases q1 : z ≥ 0
      · by_cases q2 : z ≤ 31
        · have e1 : inY z = true := by unfold inY; rw [decide_eq_true q1, decide_eq_true q2]; rfl
          rw [e1] at HNX
          clear e1
          cases g0 <;> cases bb
          · go_wp2
            go_roundg (len - (k + 1))
            case measure => omega
            case rel => exact ⟨k + 1, by omega, rfl, by go_num, by rw [HNX.out]; rfl, HB.out⟩
          · go_wp2
            go_roundg (len - (k + 1))
            case measure => omega
            case rel => exact ⟨k + 1, by omega, rfl, by go_num, by rw [HNX.out]; rfl, HB.out⟩
          · go_wp2
            go_roundg (len - (k + 1))
            case measure => omega
            case rel => exact ⟨k + 1, by omega, rfl, by go_num, by rw [HNX.out]; rfl, HB.out⟩
          · go_wp2
            go_roundg (len - (k + 1))
            case measure => omega
            case rel => exact ⟨k + 1, by omega, rfl, by go_num, by rw [HNX.out]; rfl, HB.out⟩
        · have e1 : inY z = false := by unfold inY; rw [decide_eq_true q1, decide_eq_false q2]; rfl
          rw [e1] at HNX
          clear e1
          cases g0 <;> cases bb
          · go_wp2
            go_roundg (len - (k + 1))
            case measure => omega
            case rel => exact ⟨k + 1, by omega, rfl, by go_num, by rw [HNX.out]; rfl, HB.out⟩
          · go_wp2
            go_roundg (len - (k + 1))
            case measure => omega
            case rel => exact ⟨k + 1, by omega, rfl, by go_num, by rw [HNX.out]; rfl, HB.out⟩
          · go_wp2
            go_roundg (len - (k + 1))
            case measure => omega
            case rel => exact ⟨k + 1, by omega, rfl, by go_num, by rw [HNX.out]; rfl, HB.out⟩
          · go_wp2
            go_roundg (len - (k + 1))
            case measure => omega
            case rel => exact ⟨k + 1, by omega, rfl, by go_num, by rw [HNX.out]; rfl, HB.out⟩
      · have e1 : inY z = false := by unfold inY; rw [decide_eq_false q1]; rfl
        rw [e1] at HNX
        clear e1
        cases g0 <;> cases bb
        · go_wp2
          go_roundg (len - (k + 1))
          case measure => omega
          case rel => exact ⟨k + 1, by omega, rfl, by go_num, by rw [HNX.out]; rfl, HB.out⟩
        · go_wp2
          go_roundg (len - (k + 1))
          case measure => omega
          case rel => exact ⟨k + 1, by omega, rfl, by go_num, by rw [HNX.out]; rfl, HB.out⟩
        · go_wp2
          go_roundg (len - (k + 1))
          case measure => omega
          case rel => exact ⟨k + 1, by omega, rfl, by go_num, by rw [HNX.out]; rfl, HB.out⟩
        · go_wp2
          go_roundg (len - (k + 1))
          case measure => omega
          case rel => exact ⟨k + 1, by omega, rfl, by go_num, by rw [HNX.out]; rfl, HB.out⟩
    · have ek : len = k := by omega
      subst ek
      have hki : ¬ ((len : Int) < (len : Int)) := by omega
      have eT : zs.take len = zs := List.take_of_length_le (by rw [HZ.out]; exact Nat.le_refl _)
      rw [eT]
      have hgd : (g0 && zs.all inY) = goodY zs := by unfold goodY; rw [HZ.out, HG0.out]
      rw [hgd]
      clear eT hgd HG0
      obtain ⟨gd, hgd⟩ : ∃ q, goodY zs = q := ⟨_, rfl⟩
      rw [hgd] at CG ⊢
      clear hgd
      go_upto_region 9 with fail
      obtain ⟨wA, hwA⟩ : ∃ q : World, q = wr := ⟨_, rfl⟩
      subst hwA
      go_loopg [5, 7] n (fun gk nv iv wr => ∃ (k m : Nat), k ≤ n ∧ gk = n - k ∧ iv = .int .i64 (k : Int) ∧ nv = .int .i64 (m : Int) ∧ sumY (R.take k) = m ∧ Below V2.heap.size V2 wr)
      case atStart => exact ⟨0, 0, Nat.zero_le _, rfl, rfl, rfl, rfl, HB.out⟩
      case round =>
        clear HB
        obtain ⟨k, m, hk, rfl, rfl, rfl, hm, hb⟩ := hrel
        have HB := hiddenN hb
        have HM := hiddenN hm
        clear hb hm
        by_cases hlt : k < n
        · have hkR : k < R.length := by rw [HNR.out]; exact hlt
          have hki2 : (k : Int) < (n : Int) := by omega
          obtain ⟨r1, r2, r3, r4⟩ := run_at RY.out hkR
          have hne0 : R ≠ [] := fun e => by rw [e] at hkR; exact absurd hkR (Nat.not_lt_zero _)
          rcases Y2.out with e | ⟨yb, yo, rfl, hcy⟩
          · exact absurd e hne0
          have HP := hiddenN (hcy k hkR)
          have HPV : Hid (0 < k → V2.cell? ⟨yb, yo + (k - 1) * 2, none⟩ = some (.int .i64 (nthY R (k - 1)).1) ∧ (nthY R (k - 1)).1 ≠ (nthY R k).1) := fun h0 => ⟨(hcy (k - 1) (by omega)).1, by have q := RY.out.apart.2 (k - 1) (by omega); rwa [show k - 1 + 1 = k by omega] at q⟩
          clear hcy hne0
          obtain ⟨nd, hnd⟩ : ∃ q, (nthY R k).1 = q := ⟨_, rfl⟩
          obtain ⟨ti, hti⟩ : ∃ q, (nthY R k).2 = q := ⟨_, rfl⟩
          rw [hti] at r1 r2 r3 r4
          obtain ⟨tn, rfl⟩ : ∃ tn : Nat, ti = (tn : Int) := ⟨ti.toNat, by omega⟩
          rw [Int.toNat_natCast] at r1 r2 r3
          rw [HM.out] at r1 r2 r3
          rw [HZ.out] at r2
          rw [hnd] at r1 HPV
          rw [hnd, hti] at HP
          have R1 := hiddenN r1
          have R3 := hiddenN r3
          have ht1 : ¬ ((tn : Int) < 1) := by omega
          have ht2 : ¬ ((tn : Int) > (len : Int) - (m : Int)) := by omega
          have htI : (tn : Int) ≤ 2097152 := by omega
          have hmI : (m : Int) ≤ 2097152 := by omega
          have CX : Hid (∀ V, Below V2.heap.size V2 V → V.cell? ⟨yb, yo + k * 2, none⟩ = some (.int .i64 nd) ∧ V.cell? ⟨yb, yo + k * 2 + 1, none⟩ = some (.int .i64 (tn : Int))) := fun V hv => ⟨(hv.cell (block_lt_of_cell HP.out.1)).trans HP.out.1, (hv.cell (block_lt_of_cell HP.out.2)).trans HP.out.2⟩
          clear r1 r3 r4 hnd hti HP
          obtain ⟨c0, c1⟩ := CX.out wr HB.out
          by_cases hk0 : k = 0
          · subst hk0
            go_upto_region 11 with fail
            go_quiet (fail)
            have HB2 := hiddenN (drewB HB.out nq)
            clear HB c0 c1
            generalize wr.drewN nq = W1 at *
            go_wp2
            go_loopg [5, 8] tn (fun gj nv jv wr => ∃ (i : Nat), i ≤ tn ∧ gj = tn - i ∧ jv = .int .i64 (i : Int) ∧ nv = .int .i64 ((m + i : Nat) : Int) ∧ Below V2.heap.size V2 wr)
            case atStart => exact ⟨0, Nat.zero_le _, rfl, rfl, rfl, HB2.out⟩
            case round =>
              clear HB2
              obtain ⟨i, hi, rfl, rfl, rfl, hb⟩ := hrel
              have HB := hiddenN hb
              clear hb
              obtain ⟨c0, c1⟩ := CX.out wr HB.out
              simp only [Nat.zero_mul, Nat.add_zero] at c0 c1
              by_cases hit : i < tn
              · have hiI : (i : Int) < (tn : Int) := by omega
                obtain ⟨mi, hmi⟩ : ∃ q, m + i = q := ⟨_, rfl⟩
                have hml : mi < len := by omega
                have hmJ : (mi : Int) < (len : Int) := by omega
                have hmz : mi < zs.length := by rw [HZ.out]; exact hml
                have e9 := R1.out i hit
                have HMI := hiddenN hmi
                rw [hmi] at e9 ⊢
                clear hmi
                rcases HA.out.below (L2.out.trans (HB.out.mono L2.out.size)) with e | ⟨ab, ao, rfl, hcl⟩
                · rw [e] at hmz; exact absurd hmz (Nat.not_lt_zero _)
                have cz := hcl mi hmz
                rw [e9] at cz
                have hnn : (nd != nd) = false := by simp
                clear hcl e9
                go_upto_region 16 with fail
                go_quiet (fail)
                have HB3 := hiddenN (drewB HB.out nq)
                clear HB c0 c1 cz
                generalize wr.drewN nq = W2 at *
                go_wp2
                go_roundg (tn - (i + 1))
                case measure => omega
                case rel => exact ⟨i + 1, by omega, rfl, by go_num, by have := HMI.out; rw [show m + (i + 1) = mi + 1 by omega]; rfl, HB3.out⟩
              · have ei : tn = i := by omega
                subst ei
                have hiI : ¬ ((tn : Int) < (tn : Int)) := by omega
                go_wp2
                go_roundg (n - (0 + 1))
                case measure => omega
                case rel => exact ⟨0 + 1, m + tn, by omega, rfl, by go_num, rfl, R3.out, HB.out⟩
          · have hkp : (k : Int) > 0 := by omega
            obtain ⟨pv, hpn⟩ := HPV.out (by omega)
            obtain ⟨pd, hpd⟩ : ∃ q, (nthY R (k - 1)).1 = q := ⟨_, rfl⟩
            rw [hpd] at pv hpn
            obtain ⟨j, rfl⟩ : ∃ j, k = j + 1 := ⟨k - 1, by omega⟩
            rw [Nat.add_sub_cancel] at pv
            have pw := (HB.out.cell (block_lt_of_cell pv)).trans pv
            have hpe : (nd == pd) = false := by have : ¬ nd = pd := fun e => hpn e.symm; simpa using this
            have hj2 : (j : Int) < (n : Int) := by omega
            have hj3 : j < n := by omega
            have hjp : (j : Int) + 1 > 0 := by omega
            clear hpn hpd pv
            go_upto_region 11 with fail
            go_quiet (fail)
            have HB2 := hiddenN (drewB HB.out nq)
            clear HB c0 c1 pw
            generalize wr.drewN nq = W1 at *
            go_wp2
            go_loopg [5, 8] tn (fun gj nv jv wr => ∃ (i : Nat), i ≤ tn ∧ gj = tn - i ∧ jv = .int .i64 (i : Int) ∧ nv = .int .i64 ((m + i : Nat) : Int) ∧ Below V2.heap.size V2 wr)
            case atStart => exact ⟨0, Nat.zero_le _, rfl, rfl, rfl, HB2.out⟩
            case round =>
              clear HB2
              obtain ⟨i, hi, rfl, rfl, rfl, hb⟩ := hrel
              have HB := hiddenN hb
              clear hb
              obtain ⟨c0, c1⟩ := CX.out wr HB.out
              by_cases hit : i < tn
              · have hiI : (i : Int) < (tn : Int) := by omega
                obtain ⟨mi, hmi⟩ : ∃ q, m + i = q := ⟨_, rfl⟩
                have hml : mi < len := by omega
                have hmJ : (mi : Int) < (len : Int) := by omega
                have hmz : mi < zs.length := by rw [HZ.out]; exact hml
                have e9 := R1.out i hit
                have HMI := hiddenN hmi
                rw [hmi] at e9 ⊢
                clear hmi
                rcases HA.out.below (L2.out.trans (HB.out.mono L2.out.size)) with e | ⟨ab, ao, rfl, hcl⟩
                · rw [e] at hmz; exact absurd hmz (Nat.not_lt_zero _)
                have cz := hcl mi hmz
                rw [e9] at cz
                have hnn : (nd != nd) = false := by simp
                clear hcl e9
                go_upto_region 16 with fail
                go_quiet (fail)
                have HB3 := hiddenN (drewB HB.out nq)
                clear HB c0 c1 cz
                generalize wr.drewN nq = W2 at *
                go_wp2
                go_roundg (tn - (i + 1))
                case measure => omega
                case rel => exact ⟨i + 1, by omega, rfl, by go_num, by have := HMI.out; rw [show m + (i + 1) = mi + 1 by omega]; rfl, HB3.out⟩
              · have ei : tn = i := by omega
                subst ei
                have hiI : ¬ ((tn : Int) < (tn : Int)) := by omega
                go_wp2
                go_roundg (n - ((j + 1) + 1))
                case measure => omega
                case rel => exact ⟨(j + 1) + 1, m + tn, by omega, rfl, by go_num, rfl, R3.out, HB.out⟩
        · have ek : n = k := by omega
          subst ek
          have hki2 : ¬ ((n : Int) < (n : Int)) := by omega
          have eT : R.take n = R := List.take_of_length_le (by rw [HNR.out]; exact Nat.le_refl _)
          rw [eT, TX.out] at HM
          have hml : len = m := HM.out
          subst hml
          have FL1 := hiddenN (FL.out wr _ c2 (Y2.out.below HB.out))
          have hll : ((len : Int) != (len : Int)) = false := by simp
          obtain ⟨E, hE⟩ : ∃ q, chkY R = q := ⟨_, rfl⟩
          rw [hE] at CG FL1
          clear hE eT FL
          by_cases he : E = 0
          · have hgd : gd = true := CG.out.1 he
            subst he hgd
            rw [if_pos rfl, FX.out, HZ.out] at FL1
            go_upto_region 20 with (go_at_call 13; (with_reducible refine (FL1.out).mono ?_); rintro e V5 ⟨d5, c5, rfl, hc, b⟩; have A5 := hiddenN hc.at; have B5 := hiddenN (HB.out.trans (b.mono HB.out.size)); clear hc b)
            have AW5 := hiddenN (AW.out V5)
            have SI : Hid (∀ V, Below V5.heap.size V5 V → Calls Try.prog 15 #[.slice d5 len c5, .slice a len cap] V fun e w' => e = .returned (.bool true) ∧ Below V.heap.size V w') := fun V hv => by
              have q := sameN V d5 a zs c5 cap (by rw [HZ.out]; omega) (A5.out.below hv) (HA.out.below (L2.out.trans ((B5.out.trans (hv.mono B5.out.size)).mono L2.out.size)))
              rwa [HZ.out] at q
            go_wp2_with (first
              | (go_at_call 11; (with_reducible refine (AW5.out).mono ?_); rintro e V6 ⟨rfl, b⟩; have SI6 := hiddenN (SI.out V6 b); have B6 := hiddenN (B5.out.trans (b.mono B5.out.size)); clear b)
              | (go_at_call 15; (with_reducible refine (SI6.out).mono ?_); rintro e V7 ⟨rfl, b⟩; have L7 := hiddenN (L2.out.trans ((B6.out.trans (b.mono B6.out.size)).mono L2.out.size)); clear b))
            rw [← HRE.out]
            exact ⟨by first | rfl | simp, L7.out⟩
          · have hgd : gd = false := by
              cases gd
              · rfl
              · exact absurd (CG.out.2 rfl) he
            subst hgd
            have hEb : ((E : Int) == 0) = false := by simpa using he
            rw [if_neg he] at FL1
            go_upto_region 20 with (go_at_call 13; (with_reducible refine (FL1.out).mono ?_); rintro e V5 ⟨d5, c5, rfl, hc, b⟩; have B5 := hiddenN (HB.out.trans (b.mono HB.out.size)); clear hc b)
            have AW5 := hiddenN (AW.out V5)
            go_wp2_with (go_at_call 11; (with_reducible refine (AW5.out).mono ?_); rintro e V6 ⟨rfl, b⟩; have L6 := hiddenN (L2.out.trans ((B5.out.trans (b.mono B5.out.size)).mono L2.out.size)); clear b)
            rw [← HRE.out]
            exact ⟨by first | rfl | simp, L6.out⟩
end Go.Proofs.Ytigaimkflngneaa
