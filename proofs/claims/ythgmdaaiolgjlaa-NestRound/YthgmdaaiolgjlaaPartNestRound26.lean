/- Texts of one chain, laid one behind the other. -/
import Derived.Test.YthgmdaaiolgjlaaPartNestRound11
import Derived.Test.YthgmdaaiolgjlaaPartNestRound25
import Derived.Test.YthgmdaaiolgjlaaPartNestRound20
namespace Go.Proofs.Ythgmdaaiolgjlaa
open Go.ChangeShapes Go.WideShapes Go.ChangeAt Go.RowKit Go.Shelf
theorem nst_blkQ {u : World} {B g c L : Nat} {m : Int} {l : List Lp} (h : LtdZ B u g c l) (hL : l.length = L) : Nst (· < (u.alloc (.cells #[.int .i64 m, .int .i64 0, .slice (some ⟨g, 0, none⟩) L c] 47)).heap.size) false (u.alloc (.cells #[.int .i64 m, .int .i64 0, .slice (some ⟨g, 0, none⟩) L c] 47)) (some ⟨u.heap.size, 0, none⟩) (blkQ m l) := by
  subst hL
  have b : Below u.heap.size u (u.alloc (.cells #[.int .i64 m, .int .i64 0, .slice (some ⟨g, 0, none⟩) l.length c] 47)) := (Below.refl _ _).alloc (Nat.le_refl _) _
  refine nst_one (by rw [World.size_alloc]; omega) (blkA_new _ _ _) (nst_more h.bare.bare b)
set_option maxRecDepth 100000 in
set_option maxHeartbeats 16000000 in
theorem nestRound_walk (a : Option Addr) (l : List Lp) (c : Nat) (m : Int) (w : World) (h : Nst (· < w.heap.size) false w a l) (_hm : -9223372036854775808 ≤ m ∧ m ≤ 9223372036854775807) : Calls Try.prog 8 #[.slice a l.length c, .int .i64 m] w fun e w' => e = .returned (.bool true) ∧ Below w.heap.size w w' := by
  have HV := hiddenN (heavyZ_any l (· < w.heap.size) false a c w h)
  have AW := hiddenN awake16
  obtain ⟨RE, hRE⟩ : ∃ Q : Ending → World → Prop, (fun e w' => e = .returned (.bool true) ∧ Below w.heap.size w w') = Q := ⟨_, rfl⟩
  rw [hRE]
  have HRE := hiddenN hRE
  have HN := hiddenN h
  by_cases h0 : l = []
  · rw [h0, List.length_nil] at HV ⊢
    clear hRE h h0
    go_enter Try.func8, Try.ntmps8
    go_wp2_with (go_at_call 9; (with_reducible refine HV.out.mono ?_); rintro e V0 ⟨b, rfl, hb, hw⟩; subst hw; cases b)
    · rw [← HRE.out]
      exact ⟨by first | rfl | simp, Below.refl _ _⟩
    · rw [← HRE.out]
      exact ⟨by first | rfl | simp, Below.refl _ _⟩
  have HNE := hiddenN h0
  obtain ⟨L, hL⟩ : ∃ q, l.length = q := ⟨_, rfl⟩
  have HL := hiddenN hL
  have hL0 : L ≠ 0 := fun e => h0 (List.eq_nil_of_length_eq_zero (hL.trans e))
  have hLb : ((L : Int) == 0) = false := by simpa using hL0
  rw [hL] at HV ⊢
  clear hRE h hL h0 hL0
  go_enter Try.func8, Try.ntmps8
  go_upto_region 3 with (go_at_call 9; (with_reducible refine HV.out.mono ?_); rintro e V0 ⟨b, rfl, hb, hw⟩; subst hw; cases b)
  · have hs : sizZ l ≤ 65536 := by simpa using hb
    have HS : Hid (sizZ l ≤ 1000000) := by show _ ≤ _; omega
    have HS1 : Hid (sizZ (blkQ m l) ≤ 1000000) := by show _ ≤ _; rw [blk_siz]; omega
    have HHD : Hid (hdsZ l ≤ 65536) := Nat.le_trans (hds_siz l) hs
    have LE : Hid (∀ u, Below w.heap.size w u → Calls Try.prog 10 #[.slice a L c] u (LenE l u)) := fun u hu => by
      have := lentZ_any l w.heap.size false a c u (HN.out.below hu) hu.size HS.out
      rwa [HL.out] at this
    have ME : Hid (∀ u B g cc, LtdZ B u g cc l → Calls Try.prog 15 #[.slice (some ⟨g, 0, none⟩) L cc] u fun e w' => e = .returned (.tuple #[sizV l, .int .i64 (chkZ l : Int)]) ∧ Below u.heap.size u w') := fun u B g cc h => by
      have := measZ_any l true (some ⟨g, 0, none⟩) cc u h.bare HS.out
      rwa [HL.out] at this
    have EX : Hid (∀ u B g cc, LtdZ B u g cc l → Calls Try.prog 17 #[.slice (some ⟨g, 0, none⟩) L cc] u (ExpE l u)) := fun u B g cc h => by
      have := expandZ_any l true (some ⟨g, 0, none⟩) cc u h.bare HS.out
      rwa [HL.out] at this
    have MEk : Hid (∀ u B g cc, LtdZ B u g cc l → Calls Try.prog 15 #[.slice (some ⟨u.heap.size, 0, none⟩) 1 1] (u.alloc (.cells #[.int .i64 m, .int .i64 0, .slice (some ⟨g, 0, none⟩) L cc] 47)) fun e w' => e = .returned (.tuple #[sizV (blkQ m l), .int .i64 (chkZ (blkQ m l) : Int)]) ∧ Below u.heap.size u w') := fun u B g cc h => by
      refine (measZ_any (blkQ m l) false (some ⟨u.heap.size, 0, none⟩) 1 _ (nst_blkQ h HL.out) HS1.out).mono fun e w' q => ⟨q.1, ?_⟩
      have b : Below u.heap.size u (u.alloc (.cells #[.int .i64 m, .int .i64 0, .slice (some ⟨g, 0, none⟩) L cc] 47)) := (Below.refl _ _).alloc (Nat.le_refl _) _
      exact b.trans (q.2.mono b.size)
    have EXk : Hid (∀ u B g cc, LtdZ B u g cc l → Calls Try.prog 17 #[.slice (some ⟨u.heap.size, 0, none⟩) 1 1] (u.alloc (.cells #[.int .i64 m, .int .i64 0, .slice (some ⟨g, 0, none⟩) L cc] 47)) (ExpE (blkQ m l) u)) := fun u B g cc h => by
      refine (expandZ_any (blkQ m l) false (some ⟨u.heap.size, 0, none⟩) 1 _ (nst_blkQ h HL.out) HS1.out).mono fun e w' q => ?_
      have b : Below u.heap.size u (u.alloc (.cells #[.int .i64 m, .int .i64 0, .slice (some ⟨g, 0, none⟩) L cc] 47)) := (Below.refl _ _).alloc (Nat.le_refl _) _
      obtain ⟨d, c9, q1, q2, q3⟩ := q
      exact ⟨d, c9, q1, q2.mono b.size, b.trans (q3.mono b.size)⟩
    unfold LenE at LE
    unfold ExpE at EX EXk
    obtain ⟨p0, p1, p2, p3, hvp⟩ := siz_fourJ l
    obtain ⟨q0, q1, q2, q3, hvq⟩ := siz_fourJ (blkQ m l)
    rw [hvp] at ME
    rw [hvq] at MEk
    have SP := hiddenN (siz_is hvp)
    have SQ := hiddenN (siz_is hvq)
    obtain ⟨E, hE⟩ : ∃ q, chkZ l = q := ⟨_, rfl⟩
    obtain ⟨F, hF⟩ : ∃ q, chkZ (blkQ m l) = q := ⟨_, rfl⟩
    have HE := hiddenN hE
    have HF := hiddenN hF
    rw [hE] at ME EX SP
    rw [hF] at MEk EXk SQ
    have L0 := hiddenN (Below.refl w.heap.size w)
    clear hb hs HV hvp hvq hE hF
    go_upto_region 4 with (first
      | (go_at_call 15; (with_reducible refine (ME.out V1 _ gt ct T1.out).mono ?_); rintro e V2 ⟨rfl, b⟩; have L2 := hiddenN (L1.out.trans (b.mono L1.out.size)); clear b)
      | (go_at_call 10; (with_reducible refine (LE.out w L0.out).mono ?_); rintro e V1 ⟨gt, ct, rfl, hl, b⟩; rw [HL.out]; have T1 := hiddenN hl; have L1 := hiddenN (L0.out.trans (b.mono L0.out.size)); clear hl b))
    clear T1 L1
    have b := (Below.refl V2.heap.size V2).alloc (Nat.le_refl _) (.cells #[.int .i64 p0, .int .i64 p1, .int .i64 p2, .int .i64 p3] 31)
    have L3 := hiddenN (L2.out.trans (b.mono L2.out.size))
    have XS3 := hiddenN (blkA_new 31 V2 #[.int .i64 p0, .int .i64 p1, .int .i64 p2, .int .i64 p3])
    obtain ⟨sb, hsb⟩ : ∃ q, V2.heap.size = q := ⟨_, rfl⟩
    rw [hsb] at XS3 ⊢
    clear b hsb L2
    generalize V2.alloc (.cells #[.int .i64 p0, .int .i64 p1, .int .i64 p2, .int .i64 p3] 31) = V3 at *
    go_upto_region 5 with (go_at_call 10; (with_reducible refine (LE.out V3 L3.out).mono ?_); rintro e V4 ⟨gu, cu, rfl, hl, b⟩; rw [HL.out]; have T4 := hiddenN hl; have L4 := hiddenN (L3.out.trans (b.mono L3.out.size)); have XS4 := hiddenN (XS3.out.below b); clear hl b)
    clear L3 XS3
    have b := (Below.refl V4.heap.size V4).alloc (Nat.le_refl _) (.cells #[.int .i64 m, .int .i64 0, .slice (some ⟨gu, 0, none⟩) L cu] 47)
    have L5 := hiddenN (L4.out.trans (b.mono L4.out.size))
    have XS5 := hiddenN (XS4.out.below b)
    have T5 := hiddenN (T4.out.later b)
    have XB5 := hiddenN (blkA_new 47 V4 #[.int .i64 m, .int .i64 0, .slice (some ⟨gu, 0, none⟩) L cu])
    obtain ⟨bb, hbb⟩ : ∃ q, V4.heap.size = q := ⟨_, rfl⟩
    rw [hbb] at XB5 ⊢
    clear b hbb L4 XS4 T4
    generalize V4.alloc (.cells #[.int .i64 m, .int .i64 0, .slice (some ⟨gu, 0, none⟩) L cu] 47) = V5 at *
    have k0 := XB5.out.cell (k := 0) rfl
    have k1 := XB5.out.cell (k := 1) rfl
    have k2 := XB5.out.cell (k := 2) rfl
    simp only [List.getElem_toArray, List.getElem_cons_zero, List.getElem_cons_succ] at k0 k1 k2
    have MB5 := hiddenN (MEk.out V5 _ gu cu T5.out)
    go_upto_region 6 with (go_at_call 15; (with_reducible refine (MB5.out).mono ?_); rintro e V6 ⟨rfl, b⟩; have L6 := hiddenN (L5.out.trans (b.mono L5.out.size)); have XS6 := hiddenN (XS5.out.below b); have T6 := hiddenN (T5.out.later b); have XB6 := hiddenN (XB5.out.below b); clear b)
    clear k0 k1 k2 MB5 L5 XS5 T5 XB5
    have b := (Below.refl V6.heap.size V6).alloc (Nat.le_refl _) (.cells #[.int .i64 q0, .int .i64 q1, .int .i64 q2, .int .i64 q3] 31)
    have L7 := hiddenN (L6.out.trans (b.mono L6.out.size))
    have XS7 := hiddenN (XS6.out.below b)
    have T7 := hiddenN (T6.out.later b)
    have XB7 := hiddenN (XB6.out.below b)
    have XT7 := hiddenN (blkA_new 31 V6 #[.int .i64 q0, .int .i64 q1, .int .i64 q2, .int .i64 q3])
    obtain ⟨tb, htb⟩ : ∃ q, V6.heap.size = q := ⟨_, rfl⟩
    rw [htb] at XT7 ⊢
    clear b htb L6 XS6 T6 XB6
    generalize V6.alloc (.cells #[.int .i64 q0, .int .i64 q1, .int .i64 q2, .int .i64 q3] 31) = V7 at *
    by_cases hEz : E = 0
    · subst hEz
      have hFc := blk_chk (m := m) HNE.out HE.out
      rw [HF.out] at hFc
      obtain ⟨wp0, wp1, wp2, wp3⟩ := SP.out.1 rfl
      obtain ⟨ea, ta⟩ := chk_zero HE.out
      have lva := lvs_tot (err_pos _ _ _ ea)
      have tp := pos_tot (err_pos _ _ _ ea) HNE.out
      have dpa := err_deep _ _ _ ea
      have hha := HHD.out
      have xla := exp_len l
      subst wp0 wp1 wp2 wp3
      by_cases hm1 : m < 1
      · rw [if_pos hm1] at hFc
        subst hFc
        clear lva tp dpa hha xla ta
        go_wp2_with (go_at_call 11; (with_reducible refine (AW.out V7).mono ?_); rintro e V8 ⟨rfl, b⟩; have L8 := hiddenN (L7.out.trans (b.mono L7.out.size)); have xx := XT7.out.below b; have yy := XS7.out.below b; have t0 := xx.cell (k := 0) rfl; have z0 := yy.cell (k := 0) rfl; have t1 := xx.cell (k := 1) rfl; have z1 := yy.cell (k := 1) rfl; have t2 := xx.cell (k := 2) rfl; have z2 := yy.cell (k := 2) rfl; have t3 := xx.cell (k := 3) rfl; have z3 := yy.cell (k := 3) rfl; simp only [List.getElem_toArray, List.getElem_cons_zero, List.getElem_cons_succ] at t0 t1 t2 t3 z0 z1 z2 z3; clear b xx yy)
        rw [← HRE.out]
        exact ⟨by first | rfl | simp, L8.out⟩
      · rw [if_neg hm1] at hFc
        obtain ⟨mn, rfl⟩ : ∃ mn : Nat, m = (mn : Int) := ⟨m.toNat, by omega⟩
        rw [Int.toNat_natCast] at hFc
        by_cases hd16 : 16 ≤ dpsZ 0 l
        · rw [if_pos hd16] at hFc
          subst hFc
          generalize dpsZ 0 l = dd at *
          have hdI : (dd : Int) ≥ 16 := by omega
          clear lva tp dpa hha xla ta
          have s2 := XS7.out.cell (k := 2) rfl
          simp only [List.getElem_toArray, List.getElem_cons_zero, List.getElem_cons_succ] at s2
          go_wp2_with (go_at_call 11; (with_reducible refine (AW.out V7).mono ?_); rintro e V8 ⟨rfl, b⟩; have L8 := hiddenN (L7.out.trans (b.mono L7.out.size)); have xx := XT7.out.below b; have yy := XS7.out.below b; have t0 := xx.cell (k := 0) rfl; have z0 := yy.cell (k := 0) rfl; have t1 := xx.cell (k := 1) rfl; have z1 := yy.cell (k := 1) rfl; have t2 := xx.cell (k := 2) rfl; have z2 := yy.cell (k := 2) rfl; have t3 := xx.cell (k := 3) rfl; have z3 := yy.cell (k := 3) rfl; simp only [List.getElem_toArray, List.getElem_cons_zero, List.getElem_cons_succ] at t0 t1 t2 t3 z0 z1 z2 z3; clear b xx yy)
          rw [← HRE.out]
          exact ⟨by first | rfl | simp, L8.out⟩
        · rw [if_neg hd16] at hFc
          have eA : keptZ l = l := by unfold keptZ; rw [if_pos HE.out]
          rw [eA] at EX
          obtain ⟨dq, HDQ, HDV, hd8⟩ := div_fact (totZ l)
          have hdv9 : dq = 2048 / totZ l := HDQ.out.symm
          have hq9 : dq < mn ↔ 2048 < mn * totZ l := by
            rw [hdv9, Nat.div_lt_iff_lt_mul (by omega)]
          obtain ⟨NT, hNT⟩ : ∃ q, totZ l = q := ⟨_, rfl⟩
          obtain ⟨dd, hdd⟩ : ∃ q, dpsZ 0 l = q := ⟨_, rfl⟩
          obtain ⟨hh, hhh⟩ : ∃ q, hdsZ l = q := ⟨_, rfl⟩
          obtain ⟨ll, hll⟩ : ∃ q, lvsZ l = q := ⟨_, rfl⟩
          have hdI : ¬ (dd : Int) ≥ 16 := by omega
          rw [hNT, hdd, hhh, hll] at XS7
          rw [hNT] at tp ta hFc HDV hq9 xla lva
          rw [hll] at lva
          have hm1I : ¬ ((mn : Int) < 1) := hm1
          have hNI : ¬ ((NT : Int) < 1) := by omega
          have hN1 : (NT : Int) ≥ 1 := by omega
          have hN2 : (NT : Int) ≤ 2048 := by omega
          have hN0 : ¬ (NT : Int) = 0 := by omega
          have HWD : Hid (wrap64 (dq : Int) = (dq : Int)) := wrap_fit (by omega) (by omega)
          have hhI : (hh : Int) ≤ 65536 := by omega
          have hddI : (dd : Int) ≤ 16 := by omega
          by_cases hbig : 2048 < mn * NT
          · rw [if_pos hbig] at hFc
            subst hFc
            have hmI : (mn : Int) > (dq : Int) := Int.ofNat_lt.2 (hq9.2 hbig)
            have hdv := HDV.out
            have hwd := HWD.out
            clear hdv9 hq9 hbig lva tp ta dpa hha xla eA hNT hdd hhh hll HDQ hd16
            have s0 := XS7.out.cell (k := 0) rfl
            have s1 := XS7.out.cell (k := 1) rfl
            have s2 := XS7.out.cell (k := 2) rfl
            have s3 := XS7.out.cell (k := 3) rfl
            simp only [List.getElem_toArray, List.getElem_cons_zero, List.getElem_cons_succ] at s0 s1 s2 s3
            go_wp2_with (go_at_call 11; (with_reducible refine (AW.out V7).mono ?_); rintro e V8 ⟨rfl, b⟩; have L8 := hiddenN (L7.out.trans (b.mono L7.out.size)); have xx := XT7.out.below b; have yy := XS7.out.below b; have t0 := xx.cell (k := 0) rfl; have z0 := yy.cell (k := 0) rfl; have t1 := xx.cell (k := 1) rfl; have z1 := yy.cell (k := 1) rfl; have t2 := xx.cell (k := 2) rfl; have z2 := yy.cell (k := 2) rfl; have t3 := xx.cell (k := 3) rfl; have z3 := yy.cell (k := 3) rfl; simp only [List.getElem_toArray, List.getElem_cons_zero, List.getElem_cons_succ] at t0 t1 t2 t3 z0 z1 z2 z3; clear b xx yy)
            rw [← HRE.out]
            exact ⟨by first | rfl | simp, L8.out⟩
          · rw [if_neg hbig] at hFc
            subst hFc
            have hmI : ¬ (mn : Int) > (dq : Int) := fun q => hbig (hq9.1 (Int.ofNat_lt.1 q))
            obtain ⟨wq0, wq1, wq2, wq3⟩ := SQ.out.1 rfl
            rw [blk_lvs HNE.out, hll] at wq0
            rw [blk_hds, hhh] at wq1
            rw [blk_dps HNE.out, hdd] at wq2
            rw [blk_tot HNE.out, hNT, Int.toNat_natCast] at wq3
            have kB : keptZ (blkQ (mn : Int) l) = blkQ (mn : Int) l := by unfold keptZ; rw [if_pos HF.out]
            rw [kB, blk_exp HNE.out, Int.toNat_natCast] at EXk
            obtain ⟨A, hA⟩ : ∃ q, expZ l = q := ⟨_, rfl⟩
            rw [hA] at EX EXk xla
            rw [xla] at EX
            rw [rep_len, xla] at EXk
            have HA := hiddenN xla
            have HPR : Hid (mn * NT ≤ 2048) := by show _ ≤ _; omega
            have hmn : mn ≤ mn * NT := Nat.le_mul_of_pos_right _ tp
            have hmnI : (mn : Int) ≤ 2048 := by omega
            have hwr : wrap64 ((mn : Int) * (NT : Int)) = ((mn * NT : Nat) : Int) := by
              have q : ((mn * NT : Nat) : Int) = (mn : Int) * (NT : Int) := Int.natCast_mul ..
              rw [← q]
              exact wrap_fit (by omega) (by omega)
            clear hq9
            have HWR : Hid (Value.int .i64 (wrap64 ((mn : Int) * (NT : Int))) = Value.int .i64 ((mn * NT : Nat) : Int)) := congrArg _ hwr
            subst wq0 wq3
            have wq2' : q2 = (dd : Int) + 1 := wq2
            subst wq2'
            clear hdv9 hbig lva ta dpa hha xla eA hNT hdd hhh hll HDQ hd16 hA kB wq2 hmn hwr SP SQ HE HF HHD HNE
            by_cases hmm : (1 : Int) < (mn : Int)
            · have hm9 : (mn : Int) > 1 := hmm
              have wq1' : q1 = (hh : Int) + 1 := by rw [wq1, if_pos hmm]; omega
              clear wq1 hmm
              subst wq1'
              have hdv := HDV.out
              have hwd := HWD.out
              have s0 := XS7.out.cell (k := 0) rfl
              have s1 := XS7.out.cell (k := 1) rfl
              have s2 := XS7.out.cell (k := 2) rfl
              have s3 := XS7.out.cell (k := 3) rfl
              simp only [List.getElem_toArray, List.getElem_cons_zero, List.getElem_cons_succ] at s0 s1 s2 s3
              go_upto_region 17 with fail
              clear hdv hwd s0 s1 s2 s3
              go_upto_region 18 with (first
                | (go_at_call 17; (with_reducible refine (EX.out V8 _ gv cv U8.out).mono ?_); rintro e V9 ⟨d1, c1, rfl, hc, b⟩; have L9 := hiddenN (L8.out.trans (b.mono L8.out.size)); have XS9 := hiddenN (XS8.out.below b); have XB9 := hiddenN (XB8.out.below b); have XT9 := hiddenN (XT8.out.below b); have T9 := hiddenN (T8.out.later b); have C9 := hiddenN hc; clear hc b)
                | (go_at_call 10; (with_reducible refine (LE.out V7 L7.out).mono ?_); rintro e V8 ⟨gv, cv, rfl, hl, b⟩; rw [HL.out]; have U8 := hiddenN hl; have L8 := hiddenN (L7.out.trans (b.mono L7.out.size)); have XS8 := hiddenN (XS7.out.below b); have XB8 := hiddenN (XB7.out.below b); have XT8 := hiddenN (XT7.out.below b); have T8 := hiddenN (T7.out.later b); clear hl b))
              have k0 := XB9.out.cell (k := 0) rfl
              have k1 := XB9.out.cell (k := 1) rfl
              have k2 := XB9.out.cell (k := 2) rfl
              simp only [List.getElem_toArray, List.getElem_cons_zero, List.getElem_cons_succ] at k0 k1 k2
              have MB9 := hiddenN (EXk.out V9 _ gu cu T9.out)
              go_upto_region 19 with (go_at_call 17; (with_reducible refine (MB9.out).mono ?_); rintro e V10 ⟨d2, c2, rfl, hc, b⟩; have L10 := hiddenN (L9.out.trans (b.mono L9.out.size)); have XS10 := hiddenN (XS9.out.below b); have XT10 := hiddenN (XT9.out.below b); have C10 := hiddenN (C9.out.later b); have A10 := hiddenN hc; clear hc b)
              clear k0 k1 k2 MB9 L8 XS8 XB8 XT8 T8 U8 L9 XS9 XB9 XT9 T9 C9 LE ME MEk EX EXk
              go_upto_region 21 with fail
              go_loopg [15, 16] mn (fun gj ov jv wr => ∃ (j : Nat) (d : Option Addr) (n2 cc : Nat), j ≤ mn ∧ gj = mn - j ∧ jv = .int .i64 (j : Int) ∧ ov = .slice d n2 cc ∧ (repZ j A).length = n2 ∧ CapR V10.heap.size wr d cc (repZ j A) ∧ Below V10.heap.size V10 wr)
              case atStart => exact ⟨0, none, 0, 0, Nat.zero_le _, rfl, rfl, rfl, by rw [rep_zero]; rfl, by rw [rep_zero]; exact CapR.nil _ _, Below.refl _ _⟩
              case round =>
                obtain ⟨j, d, n2, cc, hj, rfl, rfl, rfl, hn2, hC, hb⟩ := hrel
                have HN2 := hiddenN hn2
                have HC := hiddenN hC
                have HB := hiddenN hb
                have hn3 : n2 = j * NT := by rw [← hn2, rep_len, HA.out]
                clear hn2 hC hb
                by_cases hjt : j < mn
                · have hjI : (j : Int) < (mn : Int) := by omega
                  have hjl : (j + 1) * NT ≤ mn * NT := Nat.mul_le_mul_right _ hjt
                  have hjn : (j + 1) * NT = j * NT + NT := Nat.succ_mul _ _
                  have hn4 : n2 + NT ≤ 2048 := by have := HPR.out; omega
                  have hBw : V10.heap.size ≤ wr.heap.size := HB.out.size
                  have CQw := hiddenN (C10.out.later HB.out)
                  clear hjl hjn hn3
                  go_wp2_with (at_builtin; refine wpList_appI rfl _ _ rfl V10.heap.size d cc (repZ j A) (by rw [HN2.out]; rfl) HC.out d1 c1 A (by rw [HA.out]; rfl) (capR_off CQw.out) CQw.out.at (by rw [HN2.out, HA.out]; omega) hBw (n2 + NT) (repZ j A ++ A) (by rw [HN2.out, HA.out]) rfl ?_; intro d3 c3 W3 hd3 b3; have C3 := hiddenN hd3; have B3 := hiddenN (HB.out.trans b3); clear hd3 b3)
                  go_roundg (mn - (j + 1))
                  case measure => omega
                  case rel => exact ⟨j + 1, d3, n2 + NT, c3, by omega, rfl, by go_num, rfl, by rw [rep_snoc, List.length_append, HN2.out, HA.out], by rw [rep_snoc]; exact C3.out, B3.out⟩
                · have ej : mn = j := by omega
                  clear hn3
                  subst ej
                  have hjI : ¬ ((mn : Int) < (mn : Int)) := by omega
                  have LQw := hiddenN (L10.out.trans (HB.out.mono L10.out.size))
                  have XSW := hiddenN (XS10.out.below HB.out)
                  have XTW := hiddenN (XT10.out.below HB.out)
                  have AWr := hiddenN (A10.out.at.below HB.out)
                  have HLN : Hid ((repZ mn A).length = n2) := HN2
                  have SI : Hid (∀ V, Below wr.heap.size wr V → Calls Try.prog 19 #[.slice d2 n2 c2, .slice d n2 cc] V fun e w' => e = .returned (.bool true) ∧ Below V.heap.size V w') := fun V hv => by
                    have := sameN V d2 d (repZ mn A) c2 cc (by rw [HLN.out]; have := HPR.out; have q := HLN.out; rw [rep_len, HA.out] at q; omega) (AWr.out.below hv) (HC.out.at.below hv)
                    rwa [HLN.out] at this
                  have hn9 : mn * NT = n2 := by have q := HLN.out; rwa [rep_len, HA.out] at q
                  have HN9 := hiddenN hn9
                  rw [hn9]
                  clear hn9
                  have s0 := XSW.out.cell (k := 0) rfl
                  have s1 := XSW.out.cell (k := 1) rfl
                  have s2 := XSW.out.cell (k := 2) rfl
                  have s3 := XSW.out.cell (k := 3) rfl
                  have t0 := XTW.out.cell (k := 0) rfl
                  have t1 := XTW.out.cell (k := 1) rfl
                  have t2 := XTW.out.cell (k := 2) rfl
                  have t3 := XTW.out.cell (k := 3) rfl
                  simp only [List.getElem_toArray, List.getElem_cons_zero, List.getElem_cons_succ] at s0 s1 s2 s3 t0 t1 t2 t3
                  have hwr := HWR.out
                  go_upto_region 25 with fail
                  clear hwr s0 s1 s2 s3 t0 t1 t2 t3
                  have AWw := hiddenN (AW.out wr)
                  go_wp2_with (first
                    | (go_at_call 11; (with_reducible refine (AWw.out).mono ?_); rintro e W5 ⟨rfl, b⟩; have L5 := hiddenN (LQw.out.trans (b.mono LQw.out.size)); have SI5 := hiddenN (SI.out W5 b); clear b)
                    | (go_at_call 19; (with_reducible refine (SI5.out).mono ?_); rintro e W6 ⟨rfl, b⟩; have L6 := hiddenN (L5.out.trans (b.mono L5.out.size)); clear b))
                  rw [← HRE.out]
                  exact ⟨by first | rfl | simp, L6.out⟩
            · have hm9 : ¬ (mn : Int) > 1 := hmm
              have wq1' : q1 = (hh : Int) := by rw [wq1, if_neg hmm]; omega
              clear wq1 hmm
              subst wq1'
              have hdv := HDV.out
              have hwd := HWD.out
              have s0 := XS7.out.cell (k := 0) rfl
              have s1 := XS7.out.cell (k := 1) rfl
              have s2 := XS7.out.cell (k := 2) rfl
              have s3 := XS7.out.cell (k := 3) rfl
              simp only [List.getElem_toArray, List.getElem_cons_zero, List.getElem_cons_succ] at s0 s1 s2 s3
              go_upto_region 17 with fail
              clear hdv hwd s0 s1 s2 s3
              go_upto_region 18 with (first
                | (go_at_call 17; (with_reducible refine (EX.out V8 _ gv cv U8.out).mono ?_); rintro e V9 ⟨d1, c1, rfl, hc, b⟩; have L9 := hiddenN (L8.out.trans (b.mono L8.out.size)); have XS9 := hiddenN (XS8.out.below b); have XB9 := hiddenN (XB8.out.below b); have XT9 := hiddenN (XT8.out.below b); have T9 := hiddenN (T8.out.later b); have C9 := hiddenN hc; clear hc b)
                | (go_at_call 10; (with_reducible refine (LE.out V7 L7.out).mono ?_); rintro e V8 ⟨gv, cv, rfl, hl, b⟩; rw [HL.out]; have U8 := hiddenN hl; have L8 := hiddenN (L7.out.trans (b.mono L7.out.size)); have XS8 := hiddenN (XS7.out.below b); have XB8 := hiddenN (XB7.out.below b); have XT8 := hiddenN (XT7.out.below b); have T8 := hiddenN (T7.out.later b); clear hl b))
              have k0 := XB9.out.cell (k := 0) rfl
              have k1 := XB9.out.cell (k := 1) rfl
              have k2 := XB9.out.cell (k := 2) rfl
              simp only [List.getElem_toArray, List.getElem_cons_zero, List.getElem_cons_succ] at k0 k1 k2
              have MB9 := hiddenN (EXk.out V9 _ gu cu T9.out)
              go_upto_region 19 with (go_at_call 17; (with_reducible refine (MB9.out).mono ?_); rintro e V10 ⟨d2, c2, rfl, hc, b⟩; have L10 := hiddenN (L9.out.trans (b.mono L9.out.size)); have XS10 := hiddenN (XS9.out.below b); have XT10 := hiddenN (XT9.out.below b); have C10 := hiddenN (C9.out.later b); have A10 := hiddenN hc; clear hc b)
              clear k0 k1 k2 MB9 L8 XS8 XB8 XT8 T8 U8 L9 XS9 XB9 XT9 T9 C9 LE ME MEk EX EXk
              go_upto_region 21 with fail
              go_loopg [15, 16] mn (fun gj ov jv wr => ∃ (j : Nat) (d : Option Addr) (n2 cc : Nat), j ≤ mn ∧ gj = mn - j ∧ jv = .int .i64 (j : Int) ∧ ov = .slice d n2 cc ∧ (repZ j A).length = n2 ∧ CapR V10.heap.size wr d cc (repZ j A) ∧ Below V10.heap.size V10 wr)
              case atStart => exact ⟨0, none, 0, 0, Nat.zero_le _, rfl, rfl, rfl, by rw [rep_zero]; rfl, by rw [rep_zero]; exact CapR.nil _ _, Below.refl _ _⟩
              case round =>
                obtain ⟨j, d, n2, cc, hj, rfl, rfl, rfl, hn2, hC, hb⟩ := hrel
                have HN2 := hiddenN hn2
                have HC := hiddenN hC
                have HB := hiddenN hb
                have hn3 : n2 = j * NT := by rw [← hn2, rep_len, HA.out]
                clear hn2 hC hb
                by_cases hjt : j < mn
                · have hjI : (j : Int) < (mn : Int) := by omega
                  have hjl : (j + 1) * NT ≤ mn * NT := Nat.mul_le_mul_right _ hjt
                  have hjn : (j + 1) * NT = j * NT + NT := Nat.succ_mul _ _
                  have hn4 : n2 + NT ≤ 2048 := by have := HPR.out; omega
                  have hBw : V10.heap.size ≤ wr.heap.size := HB.out.size
                  have CQw := hiddenN (C10.out.later HB.out)
                  clear hjl hjn hn3
                  go_wp2_with (at_builtin; refine wpList_appI rfl _ _ rfl V10.heap.size d cc (repZ j A) (by rw [HN2.out]; rfl) HC.out d1 c1 A (by rw [HA.out]; rfl) (capR_off CQw.out) CQw.out.at (by rw [HN2.out, HA.out]; omega) hBw (n2 + NT) (repZ j A ++ A) (by rw [HN2.out, HA.out]) rfl ?_; intro d3 c3 W3 hd3 b3; have C3 := hiddenN hd3; have B3 := hiddenN (HB.out.trans b3); clear hd3 b3)
                  go_roundg (mn - (j + 1))
                  case measure => omega
                  case rel => exact ⟨j + 1, d3, n2 + NT, c3, by omega, rfl, by go_num, rfl, by rw [rep_snoc, List.length_append, HN2.out, HA.out], by rw [rep_snoc]; exact C3.out, B3.out⟩
                · have ej : mn = j := by omega
                  clear hn3
                  subst ej
                  have hjI : ¬ ((mn : Int) < (mn : Int)) := by omega
                  have LQw := hiddenN (L10.out.trans (HB.out.mono L10.out.size))
                  have XSW := hiddenN (XS10.out.below HB.out)
                  have XTW := hiddenN (XT10.out.below HB.out)
                  have AWr := hiddenN (A10.out.at.below HB.out)
                  have HLN : Hid ((repZ mn A).length = n2) := HN2
                  have SI : Hid (∀ V, Below wr.heap.size wr V → Calls Try.prog 19 #[.slice d2 n2 c2, .slice d n2 cc] V fun e w' => e = .returned (.bool true) ∧ Below V.heap.size V w') := fun V hv => by
                    have := sameN V d2 d (repZ mn A) c2 cc (by rw [HLN.out]; have := HPR.out; have q := HLN.out; rw [rep_len, HA.out] at q; omega) (AWr.out.below hv) (HC.out.at.below hv)
                    rwa [HLN.out] at this
                  have hn9 : mn * NT = n2 := by have q := HLN.out; rwa [rep_len, HA.out] at q
                  have HN9 := hiddenN hn9
                  rw [hn9]
                  clear hn9
                  have s0 := XSW.out.cell (k := 0) rfl
                  have s1 := XSW.out.cell (k := 1) rfl
                  have s2 := XSW.out.cell (k := 2) rfl
                  have s3 := XSW.out.cell (k := 3) rfl
                  have t0 := XTW.out.cell (k := 0) rfl
                  have t1 := XTW.out.cell (k := 1) rfl
                  have t2 := XTW.out.cell (k := 2) rfl
                  have t3 := XTW.out.cell (k := 3) rfl
                  simp only [List.getElem_toArray, List.getElem_cons_zero, List.getElem_cons_succ] at s0 s1 s2 s3 t0 t1 t2 t3
                  have hwr := HWR.out
                  go_upto_region 25 with fail
                  clear hwr s0 s1 s2 s3 t0 t1 t2 t3
                  have AWw := hiddenN (AW.out wr)
                  go_wp2_with (first
                    | (go_at_call 11; (with_reducible refine (AWw.out).mono ?_); rintro e W5 ⟨rfl, b⟩; have L5 := hiddenN (LQw.out.trans (b.mono LQw.out.size)); have SI5 := hiddenN (SI.out W5 b); clear b)
                    | (go_at_call 19; (with_reducible refine (SI5.out).mono ?_); rintro e W6 ⟨rfl, b⟩; have L6 := hiddenN (L5.out.trans (b.mono L5.out.size)); clear b))
                  rw [← HRE.out]
                  exact ⟨by first | rfl | simp, L6.out⟩
    · have f1 : ((E : Int) != 0) = true := by simpa using hEz
      have hFn : F ≠ 0 := fun e => blk_bad (m := m) HNE.out (fun q => hEz (HE.out.symm.trans q)) (HF.out.trans e)
      have f2 : ((F : Int) != 0) = true := by simpa using hFn
      obtain ⟨wq0, wq1, wq2, wq3⟩ := SQ.out.2 hFn
      subst wq0 wq1 wq2 wq3
      go_wp2_with (go_at_call 11; (with_reducible refine (AW.out V7).mono ?_); rintro e V8 ⟨rfl, b⟩; have L8 := hiddenN (L7.out.trans (b.mono L7.out.size)); have xx := XT7.out.below b; have yy := XS7.out.below b; have t0 := xx.cell (k := 0) rfl; have z0 := yy.cell (k := 0) rfl; have t1 := xx.cell (k := 1) rfl; have z1 := yy.cell (k := 1) rfl; have t2 := xx.cell (k := 2) rfl; have z2 := yy.cell (k := 2) rfl; have t3 := xx.cell (k := 3) rfl; have z3 := yy.cell (k := 3) rfl; simp only [List.getElem_toArray, List.getElem_cons_zero, List.getElem_cons_succ] at t0 t1 t2 t3 z0 z1 z2 z3; clear b xx yy)
      rw [← HRE.out]
      exact ⟨by first | rfl | simp, L8.out⟩
  · rw [← HRE.out]
    exact ⟨rfl, Below.refl _ _⟩
end Go.Proofs.Ythgmdaaiolgjlaa
