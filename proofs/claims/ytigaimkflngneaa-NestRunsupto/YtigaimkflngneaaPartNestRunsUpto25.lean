/- Texts of one chain, laid one behind the other. -/
import Derived.Test.YtigaimkflngneaaPartNestRunsUpto24
import Derived.Test.YtigaimkflngneaaPartNestRunsUpto23
namespace Go.Proofs.Ytigaimkflngneaa
open Go.ChangeShapes Go.WideShapes Go.ChangeAt Go.RowKit Go.Shelf
set_option maxRecDepth 100000 in
set_option maxHeartbeats 8000000 in
theorem rrunsY_any (a : Option Addr) (zs : List Int) (cap : Nat) (w : World) (h : At w a zs) (hm : zs.length ≤ 10000000) :
    Calls Try.prog 9 #[.slice a zs.length cap] w (RunE zs w) := by
  obtain ⟨RE, hRE⟩ : ∃ Q, RunE zs w = Q := ⟨_, rfl⟩
  rw [hRE]
  have HRE := hiddenN hRE
  obtain ⟨L, hL⟩ : ∃ L, zs.length = L := ⟨_, rfl⟩
  have HL := hiddenN hL
  have A0 := hiddenN h
  rw [hL] at hm ⊢
  have hLI : (L : Int) ≤ 10000000 := by omega
  clear hRE hL h
  go_enter Try.func9, Try.ntmps9
  go_upto_region 3 with fail
  go_loopg [3, 4] L (fun gk rv iv wr => ∃ (k : Nat) (d : Option Addr) (c n : Nat) (R : List (Int × Int)), k ≤ L ∧ gk = L - k ∧ iv = .int .i64 (k : Int) ∧ rv = .slice d n c ∧ R.length = n ∧ CapY w.heap.size wr d c R ∧ Below w.heap.size w wr ∧ R = runsY (zs.take k))
  case atStart => exact ⟨0, none, 0, 0, [], Nat.zero_le _, rfl, rfl, rfl, rfl, CapY.nil _ _, Below.refl _ _, rfl⟩
  case round =>
    obtain ⟨k, d, c, n, R, hk, rfl, rfl, rfl, hn, hC, hb, hR⟩ := hrel
    have HC0 := hiddenN hC
    have HB0 := hiddenN hb
    have HR := hiddenN hR
    have HN := hiddenN hn
    clear hC hb hR hn
    by_cases hlt : k < L
    · have hkz : k < zs.length := by rw [HL.out]; exact hlt
      have hki : (k : Int) < (L : Int) := by omega
      rcases (A0.out.below HB0.out) with e | ⟨ab, ao, rfl, hcl⟩
      · rw [e] at hkz; exact absurd hkz (Nat.not_lt_zero _)
      have c0 := hcl k hkz
      have HX := hiddenN (runs_is (zs.take k))
      rw [← HR.out] at HX
      have HRN : Hid (runsY (zs.take (k + 1)) = stepY R (nth zs k)) := by show _ = _; rw [take_snocZ hkz, runs_snoc, ← HR.out]
      have hnk : n ≤ k := by
        have := HX.out.few
        rw [HN.out, List.length_take] at this
        omega
      have hnI : (n : Int) ≤ 10000000 := by omega
      by_cases hk0 : k = 0
      · subst hk0
        have hRn : R = [] := by rw [HR.out]; rfl
        subst hRn
        clear hcl HX
        rw [Nat.add_zero] at c0
        generalize hz : nth zs 0 = z at *
        go_upto_region 5 with fail
        go_quiet (fail)
        have HB1 := hiddenN (drewB HB0.out nq)
        have HC9 := hiddenN (HC0.out.later (drewB (Below.refl _ _) nq))
        have c09 := (drewB (Below.refl wr.heap.size wr) nq).cell (block_lt_of_cell c0)
        rw [c0] at c09
        clear HB0 HC0 c0
        have HB0 := HB1
        have HC0 := HC9
        have c0 := c09
        clear HB1 HC9 c09
        generalize wr.drewN nq = W1 at *
        have HC1 := hiddenN (HC0.out.later ((Below.refl _ _).alloc (Nat.le_refl _) (.cells #[.int .i64 z, .int .i64 1] 29)))
        have XB := hiddenN (blkA_new 29 W1 #[.int .i64 z, .int .i64 1])
        have u0 := XB.out.cell (k := 0) rfl
        have u1 := XB.out.cell (k := 1) rfl
        simp only [List.getElem_toArray, List.getElem_cons_zero, List.getElem_cons_succ] at u0 u1
        have hB1 : w.heap.size ≤ (W1.alloc (.cells #[.int .i64 z, .int .i64 1] 29)).heap.size := by rw [World.size_alloc]; have := HB0.out.size; omega
        have hd0 := fun y hy => (HC1.out.lt y hy).1
        have hm9 : n ≤ 10000000 := by omega
        go_wp2_with (at_builtin; refine wpList_appY1 rfl _ _ rfl w.heap.size d c (([] : List (Int × Int))) n HN.out rfl HC1.out W1.heap.size (z, 1) rfl u0 u1 hm9 hB1 ?_; intro d2 c2 W2 hg2; have HC := hiddenN hg2.own; have B2 := hiddenN ((HB0.out.alloc HB0.out.size _).trans (hg2.below hB1 hd0)); clear hg2)
        go_roundg (L - (0 + 1))
        case measure => omega
        case rel => exact ⟨0 + 1, _, _, n + 1, _, by omega, rfl, by go_num, rfl, by rw [List.length_append, HN.out]; rfl, HC.out, B2.out, HRN.out.symm⟩
      · obtain ⟨R', cc, hRe, hc1, hc2⟩ := HX.out.last (by intro e; have := congrArg List.length e; rw [List.length_take, List.length_nil] at this; omega)
        rw [nth_takeZ hkz (by omega)] at hRe
        rw [List.length_take, Nat.min_eq_left (Nat.le_of_lt hkz)] at hc2
        have c1 := hcl (k - 1) (by omega)
        obtain ⟨j, rfl⟩ : ∃ j, k = j + 1 := ⟨k - 1, by omega⟩
        rw [Nat.add_sub_cancel] at c1 hRe
        subst hRe
        have hcI : cc ≤ 10000000 := by omega
        have hjl : j < L := by omega
        have hji : (j : Int) < (L : Int) := by omega
        have hjp : (j : Int) + 1 > 0 := by omega
        clear hcl HX
        by_cases hsame : nth zs (j + 1) = nth zs j
        · rw [hsame, step_same] at HRN
          have hzz : (nth zs (j + 1) == nth zs j) = true := by simpa using hsame
          clear hsame
          generalize nth zs j = z at *
          generalize nth zs (j + 1) = z9 at *
          go_upto_region 5 with fail
          go_quiet (fail)
          have HB1 := hiddenN (drewB HB0.out nq)
          have HC9 := hiddenN (HC0.out.later (drewB (Below.refl _ _) nq))
          have c09 := (drewB (Below.refl wr.heap.size wr) nq).cell (block_lt_of_cell c0)
          rw [c0] at c09
          clear HB0 HC0 c0
          have HB0 := HB1
          have HC0 := HC9
          have c0 := c09
          clear HB1 HC9 c09
          generalize wr.drewN nq = W1 at *
          clear hzz c0 c1
          obtain ⟨m, hmE⟩ : ∃ m, R'.length = m := ⟨_, rfl⟩
          have HM := hiddenN hmE
          have hnn : n = m + 1 := by rw [← HN.out, ← hmE]; simp
          subst hnn
          clear hmE
          obtain ⟨g, rfl⟩ := capY_some HC0.out (by simp)
          have zz := capY_cell1 HC0.out (k := R'.length) (by simp)
          rw [nthY_last, HM.out] at zz
          have fz := World.ownsRow.frozenAt HC0.out (m * 2 + 1)
          have HC3 := hiddenN (capY_bump HC0.out (cc + 1))
          rw [HM.out] at HC3
          have B3 : Hid (Below w.heap.size w (W1.setCell ⟨g, m * 2 + 1, none⟩ (.int .i64 (cc + 1)))) := HB0.out.setCell (p := ⟨g, m * 2 + 1, none⟩) (HC0.out.lt _ rfl).1 _
          have hmI : (m : Int) ≤ 10000000 := by omega
          go_wp2
          go_roundg (L - ((j + 1) + 1))
          case measure => omega
          case rel => exact ⟨(j + 1) + 1, _, _, m + 1, _, by omega, rfl, by go_num, rfl, by rw [List.length_append, HM.out]; rfl, HC3.out, B3.out, HRN.out.symm⟩
        · have HRN2 := hiddenN HRN.out
          rw [step_other (fun e => hsame e.symm)] at HRN2
          have hne : (nth zs (j + 1) == nth zs j) = false := by simpa using hsame
          clear hsame HRN
          generalize nth zs j = y at *
          generalize nth zs (j + 1) = z at *
          go_upto_region 5 with fail
          go_quiet (fail)
          have HB1 := hiddenN (drewB HB0.out nq)
          have HC9 := hiddenN (HC0.out.later (drewB (Below.refl _ _) nq))
          have c09 := (drewB (Below.refl wr.heap.size wr) nq).cell (block_lt_of_cell c0)
          rw [c0] at c09
          clear HB0 HC0 c0
          have HB0 := HB1
          have HC0 := HC9
          have c0 := c09
          clear HB1 HC9 c09
          generalize wr.drewN nq = W1 at *
          have HC1 := hiddenN (HC0.out.later ((Below.refl _ _).alloc (Nat.le_refl _) (.cells #[.int .i64 z, .int .i64 1] 29)))
          have XB := hiddenN (blkA_new 29 W1 #[.int .i64 z, .int .i64 1])
          have u0 := XB.out.cell (k := 0) rfl
          have u1 := XB.out.cell (k := 1) rfl
          simp only [List.getElem_toArray, List.getElem_cons_zero, List.getElem_cons_succ] at u0 u1
          have hB1 : w.heap.size ≤ (W1.alloc (.cells #[.int .i64 z, .int .i64 1] 29)).heap.size := by rw [World.size_alloc]; have := HB0.out.size; omega
          have hd0 := fun y hy => (HC1.out.lt y hy).1
          have hm9 : n ≤ 10000000 := by omega
          go_wp2_with (at_builtin; refine wpList_appY1 rfl _ _ rfl w.heap.size d c (R' ++ [(y, cc)]) n HN.out rfl HC1.out W1.heap.size (z, 1) rfl u0 u1 hm9 hB1 ?_; intro d2 c2 W2 hg2; have HC := hiddenN hg2.own; have B2 := hiddenN ((HB0.out.alloc HB0.out.size _).trans (hg2.below hB1 hd0)); clear hg2)
          go_roundg (L - ((j + 1) + 1))
          case measure => omega
          case rel => exact ⟨(j + 1) + 1, _, _, n + 1, _, by omega, rfl, by go_num, rfl, by rw [List.length_append, HN.out]; rfl, HC.out, B2.out, HRN2.out.symm⟩
    · have ek : L = k := by omega
      subst ek
      have hT : zs.take L = zs := List.take_of_length_le (by rw [HL.out]; exact Nat.le_refl _)
      rw [hT] at HR
      have hki : ¬ ((L : Int) < (L : Int)) := by omega
      go_wp2
      rw [← HRE.out]
      exact ⟨d, c, by rw [← HR.out, HN.out], by rw [← HR.out]; exact HC0.out, HB0.out⟩
theorem flatY_put : ∀ (R : List (Int × Int)) (p q : Int × Int) (S : List (Int × Int)), ((flatY (R ++ p :: S)).set (R.length * 2) (.int .i64 q.1)).set (R.length * 2 + 1) (.int .i64 q.2) = flatY (R ++ q :: S)
  | [], p, q, S => rfl
  | x :: R, p, q, S => by
    show ((rnV x ++ flatY (R ++ p :: S)).set _ _).set _ _ = rnV x ++ flatY (R ++ q :: S)
    rw [← flatY_put R p q S, List.length_cons, List.set_append_right _ _ (by show 2 ≤ _; omega), List.set_append_right _ _ (by show 2 ≤ _; omega)]
    rw [show (R.length + 1) * 2 - (rnV x).length = R.length * 2 by show (R.length + 1) * 2 - 2 = _; omega, show (R.length + 1) * 2 + 1 - (rnV x).length = R.length * 2 + 1 by show (R.length + 1) * 2 + 1 - 2 = _; omega]
theorem capY_put {B : Nat} {w : World} {g cap : Nat} {R S : List (Int × Int)} {p : Int × Int} (h : CapY B w (some ⟨g, 0, none⟩) cap (R ++ p :: S)) (x y : Int) (m : Nat) (hm : R.length = m) : CapY B ((w.setCell ⟨g, m * 2, none⟩ (.int .i64 x)).setCell ⟨g, m * 2 + 1, none⟩ (.int .i64 y)) (some ⟨g, 0, none⟩) cap (R ++ (x, y) :: S) := by
  subst hm
  have h1 := (World.ownsRow.stored h (R.length * 2) (.int .i64 x)).1
  have h2 := (World.ownsRow.stored h1 (R.length * 2 + 1) (.int .i64 y)).1
  rw [flatY_put R p (x, y) S] at h2
  unfold CapY
  simpa using h2
theorem GrwY.trans {B : Nat} {V u u1 u' : World} {d0 d d' : Option Addr} {L L' : List (Int × Int)} {c c' : Nat} (h : GrwY B V d0 L u d c) (hb : Below u.heap.size u u1) (k : GrwY B u1 d L' u' d' c') : GrwY B V d0 L' u' d' c' := by
  refine ⟨k.own, fun j hj hne => ?_, fun z hz => ?_, Nat.le_trans h.size (Nat.le_trans hb.size k.size), k.os.trans (hb.os.trans h.os), k.tape.trans (hb.tape.trans h.tape), k.output.trans (hb.output.trans h.output)⟩
  · have h1 : j < u.heap.size := Nat.lt_of_lt_of_le hj h.size
    refine (k.keep j (Nat.lt_of_lt_of_le h1 hb.size) fun y hy e => ?_).trans ((hb.block j h1).trans (h.keep j hj hne))
    rcases h.new y hy with q | q
    · exact hne y q e
    · omega
  · rcases k.new z hz with q | q
    · exact h.new z q
    · exact .inr (Nat.le_trans h.size (Nat.le_trans hb.size q))
theorem GrwY.put {B : Nat} {V u : World} {g cap : Nat} {R S : List (Int × Int)} {p : Int × Int} (h : GrwY B V (some ⟨g, 0, none⟩) (R ++ p :: S) u (some ⟨g, 0, none⟩) cap) (x y : Int) (m : Nat) (hm : R.length = m) : GrwY B V (some ⟨g, 0, none⟩) (R ++ (x, y) :: S) ((u.setCell ⟨g, m * 2, none⟩ (.int .i64 x)).setCell ⟨g, m * 2 + 1, none⟩ (.int .i64 y)) (some ⟨g, 0, none⟩) cap := by
  have b1 := But.set u g (m * 2) (.int .i64 x)
  have b2 := But.set (u.setCell ⟨g, m * 2, none⟩ (.int .i64 x)) g (m * 2 + 1) (.int .i64 y)
  have b := b1.trans b2
  exact ⟨capY_put h.own x y m hm, fun j hj hne => (b.block j (Nat.lt_of_lt_of_le hj h.size) (fun e => hne _ rfl e.symm)).trans (h.keep j hj hne), h.new, Nat.le_trans h.size b.size, b.os.trans h.os, b.tape.trans h.tape, b.output.trans h.output⟩
set_option maxRecDepth 100000 in
set_option maxHeartbeats 16000000 in
theorem nestRuns_walk (a : Option Addr) (len cap : Nat) (zs : List Int) (w : World) (h : Arg w a len cap zs) (hlen : len ≤ 2097152) : Calls Try.prog 3 #[.slice a len cap] w fun e w' => e = .returned (.bool true) ∧ Below w.heap.size w w' := by
  have AW := hiddenN awake16
  have LE := hiddenN (lent_any a zs len cap w h)
  unfold LentEnd at LE
  obtain ⟨RE, hRE⟩ : ∃ Q : Ending → World → Prop, (fun e w' => e = .returned (.bool true) ∧ Below w.heap.size w w') = Q := ⟨_, rfl⟩
  rw [hRE]
  have HRE := hiddenN hRE
  have HA := hiddenN h
  have HZ := hiddenN h.size
  have RU : Hid (∀ u x cc, At u x zs → Calls Try.prog 8 #[.slice x len cc] u (RunE zs u)) := fun u x cc hu => by
    have := runsZ_any x zs cc u hu (by rw [HZ.out]; omega)
    rwa [HZ.out] at this
  have RR : Hid (∀ u x cc, At u x zs → Calls Try.prog 9 #[.slice x len cc] u (RunE zs u)) := fun u x cc hu => by
    have := rrunsY_any x zs cc u hu (by rw [HZ.out]; omega)
    rwa [HZ.out] at this
  have hfew : (runsY zs).length ≤ 2097152 := by
    have := (runs_is zs).few
    rw [HZ.out] at this
    omega
  unfold RunE at RU RR
  obtain ⟨R, hR⟩ : ∃ q, runsY zs = q := ⟨_, rfl⟩
  rw [hR] at RU RR hfew
  obtain ⟨n, hn⟩ : ∃ q, R.length = q := ⟨_, rfl⟩
  rw [hn] at RU RR hfew
  have HNR := hiddenN hn
  have hnI : (n : Int) ≤ 2097152 := by omega
  have SM : Hid (∀ u x y cx cy, AtY u x R → AtY u y R → Calls Try.prog 10 #[.slice x n cx, .slice y n cy] u fun e w' => e = .returned (.bool true) ∧ Below u.heap.size u w') := fun u x y cx cy h1 h2 => by
    have := sameY_any x y R cx cy u h1 h2 (by rw [hn]; omega)
    rwa [hn] at this
  have KP : Hid (∀ u g, Lend w.heap.size u g len zs → Below w.heap.size w u → Calls Try.prog 12 #[.slice (some ⟨g, 0, none⟩) len (len + 4), .slice a len cap] u fun e w' => e = .returned (.bool true) ∧ Below u.heap.size u w') := fun u g h1 h2 =>
    (kept_any g a zs len cap w.heap.size u h1 (HA.out.below h2)).mono fun e w' ⟨k, q1, q2⟩ => ⟨q1, by rw [q2]; exact drewB (Below.refl _ _) k⟩
  clear hRE h hR hn
  go_enter Try.func3, Try.ntmps3
  go_upto_region 2 with (go_at_call 7; (with_reducible refine (LE.out).mono ?_); rintro e V1 ⟨g1, rfl, hl, b⟩; have N1 := hiddenN hl; have L1 := hiddenN b; clear hl b)
  go_upto_region 3 with (go_at_call 8; (with_reducible refine (RU.out V1 _ _ N1.out.at).mono ?_); rintro e V2 ⟨d2, c2, rfl, hc, b⟩; have P2 := hiddenN hc; have B2 := hiddenN b; have N2 := hiddenN (N1.out.below b); clear hc b)
  go_upto_region 4 with (go_at_call 8; (with_reducible refine (RU.out V2 _ _ N2.out.at).mono ?_); rintro e V3 ⟨d3, c3, rfl, hc, b⟩; have Q3 := hiddenN hc; have P3 := hiddenN (P2.out.later b); have B3 := hiddenN (B2.out.trans (b.mono B2.out.size)); have D32 := hiddenN b.size; have D2 : Hid (∀ x, d2 = some x → x.block < V2.heap.size) := (fun x hx => (P2.out.lt x hx).2); clear hc b)
  go_upto_region 5 with (go_at_call 9; (with_reducible refine (RR.out V3 _ _ (HA.out.below (L1.out.trans (B3.out.mono L1.out.size))).lies).mono ?_); rintro e V4 ⟨d4, c4, rfl, hc, b⟩; have W4 := hiddenN hc; have P4 := hiddenN (P3.out.later b); have Q4 := hiddenN (Q3.out.later b); have B4 := hiddenN (B3.out.trans (b.mono B3.out.size)); have H43 := hiddenN b.size; clear hc b)
  clear P2 Q3 P3 N2 B2 B3
  go_upto_region 8 with (first
    | (go_at_call 10; (with_reducible refine (SM.out V5 d3 d4 c3 c4 Q5.out.at W5.out.at).mono ?_); rintro e V6 ⟨rfl, b⟩; have W6 := hiddenN (W5.out.later b); have P6 := hiddenN (P5.out.later b); have Q6 := hiddenN (Q5.out.later b); have B6 := hiddenN (B5.out.trans (b.mono B5.out.size)); clear b)
    | (go_at_call 10; (with_reducible refine (SM.out V4 d2 d4 c2 c4 P4.out.at W4.out.at).mono ?_); rintro e V5 ⟨rfl, b⟩; have W5 := hiddenN (W4.out.later b); have P5 := hiddenN (P4.out.later b); have Q5 := hiddenN (Q4.out.later b); have B5 := hiddenN (B4.out.trans (b.mono B4.out.size)); clear b))
  clear P4 Q4 W4 P5 Q5 W5 B4 B5 LE RR
  have G6 : Hid (GrwY V1.heap.size V6 d2 R V6 d2 c2) := ⟨P6.out, fun _ _ _ => rfl, fun _ hz => .inl hz, Nat.le_refl _, rfl, rfl, rfl⟩
  have S6 := hiddenN B6.out.size
  go_loopg [7] n (fun gk iv wr => ∃ (k : Nat), k ≤ n ∧ gk = n - k ∧ iv = .int .i64 (k : Int) ∧ GrwY V1.heap.size V6 d2 (List.replicate k (0, -7) ++ R.drop k) wr d2 c2)
  case atStart => exact ⟨0, Nat.zero_le _, rfl, rfl, by rw [List.replicate_zero, List.drop_zero]; exact G6.out⟩
  case round =>
    obtain ⟨k, hk, rfl, rfl, hG⟩ := hrel
    have HG := hiddenN hG
    clear hG
    by_cases hlt : k < n
    · have hki : (k : Int) < (n : Int) := by omega
      have hkR : k < R.length := by rw [HNR.out]; exact hlt
      have ed : R.drop k = R[k] :: R.drop (k + 1) := List.drop_eq_getElem_cons hkR
      rw [ed] at HG
      obtain ⟨g, rfl⟩ := capY_some HG.out.own (List.append_ne_nil_of_right_ne_nil _ (List.cons_ne_nil _ _))
      have hl0 : (List.replicate k ((0 : Int), (-7 : Int))).length = k := List.length_replicate ..
      have z0 := capY_cell0 HG.out.own (k := k) (by rw [List.length_append, List.length_replicate, List.length_cons]; omega)
      have z1 := capY_cell1 HG.out.own (k := k) (by rw [List.length_append, List.length_replicate, List.length_cons]; omega)
      have f0 := World.ownsRow.frozenAt HG.out.own (k * 2)
      have f1 := World.ownsRow.frozenAt HG.out.own (k * 2 + 1)
      have HG2 := hiddenN (HG.out.put 0 (-7) k hl0)
      generalize nthY (List.replicate k (0, -7) ++ R[k] :: R.drop (k + 1)) k = pz at *
      clear ed hl0
      go_wp2
      go_roundg (n - (k + 1))
      case measure => omega
      case rel => exact ⟨k + 1, by omega, rfl, by go_num, by rw [List.replicate_succ', List.append_assoc]; exact HG2.out⟩
    · have ek : n = k := by omega
      subst ek
      have hki : ¬ ((n : Int) < (n : Int)) := by omega
      have eR : R.drop n = [] := List.drop_of_length_le (by rw [HNR.out]; exact Nat.le_refl _)
      rw [eR, List.append_nil] at HG
      go_upto_region 12 with fail
      obtain ⟨wA, hwA⟩ : ∃ q : World, q = wr := ⟨_, rfl⟩
      subst hwA
      obtain ⟨M, hM⟩ : ∃ q, List.replicate n ((0 : Int), (-7 : Int)) = q := ⟨_, rfl⟩
      rw [hM] at HG
      have HML : Hid (M.length = n) := by show _ = _; rw [← hM]; exact List.length_replicate ..
      clear hM eR
      go_loopg [4, 8] 16 (fun gj av jv wr => ∃ (j : Nat) (d : Option Addr) (n2 c : Nat), j ≤ 16 ∧ gj = 16 - j ∧ jv = .int .i64 (j : Int) ∧ av = .slice d n2 c ∧ n + j = n2 ∧ GrwY V1.heap.size V6 d2 (M ++ List.replicate j (0, -8)) wr d c)
      case atStart => exact ⟨0, d2, n, c2, by decide, rfl, rfl, rfl, rfl, by rw [List.replicate_zero, List.append_nil]; exact HG.out⟩
      case round =>
        clear HG
        obtain ⟨j, d, n2, c, hj, rfl, rfl, rfl, hn2, hG⟩ := hrel
        have HG := hiddenN hG
        have hle : (M ++ List.replicate j ((0 : Int), (-8 : Int))).length = n2 := by rw [List.length_append, List.length_replicate, HML.out]; exact hn2
        have HLE := hiddenN hle
        have HN2 := hiddenN hn2
        have hn9 : n2 ≤ 10000000 := by omega
        clear hG hle hn2
        by_cases hjt : j < 16
        · have hjI : (j : Int) < 16 := by omega
          have bA := (Below.refl wr.heap.size wr).alloc (Nat.le_refl _) (.cells #[.int .i64 0, .int .i64 (-8)] 29)
          have HC1 := hiddenN (HG.out.own.later bA)
          have XB := blkA_new 29 wr #[.int .i64 0, .int .i64 (-8)]
          have u0 := XB.cell (k := 0) rfl
          have u1 := XB.cell (k := 1) rfl
          simp only [List.getElem_toArray, List.getElem_cons_zero, List.getElem_cons_succ] at u0 u1
          have hB1 : V1.heap.size ≤ (wr.alloc (.cells #[.int .i64 0, .int .i64 (-8)] 29)).heap.size := Nat.le_trans (Nat.le_trans S6.out HG.out.size) bA.size
          have BA := hiddenN bA
          clear bA XB
          go_wp2_with (at_builtin; refine wpList_appY1 rfl _ _ rfl V1.heap.size d c (M ++ List.replicate j (0, -8)) n2 HLE.out rfl HC1.out wr.heap.size (0, -8) rfl u0 u1 hn9 hB1 ?_; intro d7 c7 W7 hg7; have HG7 := hiddenN (HG.out.trans BA.out hg7); clear hg7)
          go_roundg (16 - (j + 1))
          case measure => omega
          case rel => exact ⟨j + 1, d7, n2 + 1, c7, by omega, rfl, by go_num, rfl, by have := HN2.out; omega, by rw [List.replicate_succ', ← List.append_assoc]; exact HG7.out⟩
        · have ej : j = 16 := by omega
          have hjI : ¬ ((j : Int) < 16) := by omega
          clear ej
          have hd2 : ∀ y, d2 = some y → V1.heap.size ≤ y.block := fun y hy => (P6.out.lt y hy).1
          have B7 := hiddenN (B6.out.trans (HG.out.below S6.out hd2))
          have Q7 := hiddenN (Q6.out.keep fun x hx => HG.out.keep _ (Q6.out.lt x hx).2 (fun y hy e => by have := (Q6.out.lt x hx).1; have := D2.out y hy; omega))
          have W7 := hiddenN (W6.out.keep fun x hx => HG.out.keep _ (W6.out.lt x hx).2 (fun y hy e => by have := (W6.out.lt x hx).1; have := D2.out y hy; have := D32.out; omega))
          have AW7 := hiddenN (AW.out wr)
          clear hd2 G6 P6 Q6 W6 B6 HG
          go_wp2_with (first
            | (go_at_call 12; (with_reducible refine (KP11.out).mono ?_); rintro e V12 ⟨rfl, b⟩; have L12 := hiddenN (L11.out.trans (b.mono L11.out.size)); clear b)
            | (go_at_call 10; (with_reducible refine (SM.out V10 d10 d4 c10 c4 P10.out.at W10.out.at).mono ?_); rintro e V11 ⟨rfl, b⟩; have B11 := hiddenN (B10.out.trans (b.mono B10.out.size)); have L11 := hiddenN (L1.out.trans (B11.out.mono L1.out.size)); have KP11 := hiddenN (KP.out V11 g1 (N1.out.below B11.out) L11.out); clear b)
            | (go_at_call 8; (with_reducible refine (RU.out V9 _ _ (N1.out.below B9.out).at).mono ?_); rintro e V10 ⟨d10, c10, rfl, hc, b⟩; have P10 := hiddenN hc; have W10 := hiddenN (W9.out.later b); have B10 := hiddenN (B9.out.trans (b.mono B9.out.size)); clear hc b)
            | (go_at_call 10; (with_reducible refine (SM.out V8 d3 d4 c3 c4 Q8.out.at W8.out.at).mono ?_); rintro e V9 ⟨rfl, b⟩; have W9 := hiddenN (W8.out.later b); have B9 := hiddenN (B8.out.trans (b.mono B8.out.size)); clear b)
            | (go_at_call 11; (with_reducible refine (AW7.out).mono ?_); rintro e V8 ⟨rfl, b⟩; have Q8 := hiddenN (Q7.out.later b); have W8 := hiddenN (W7.out.later b); have B8 := hiddenN (B7.out.trans (b.mono B7.out.size)); clear b))
          rw [← HRE.out]
          exact ⟨by first | rfl | simp, L12.out⟩
end Go.Proofs.Ytigaimkflngneaa
