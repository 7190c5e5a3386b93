/- Texts of one chain, laid one behind the other. -/
import Derived.Test.YthgmdaaiolgjlaaPartNestMeasures20
import Derived.Test.YthgmdaaiolgjlaaPartNestMeasures25
import Derived.Test.YthgmdaaiolgjlaaPartNestMeasures12
import Derived.Test.YthgmdaaiolgjlaaPartNestMeasures13
import Derived.Test.YthgmdaaiolgjlaaPartNestMeasures22
namespace Go.Proofs.Ythgmdaaiolgjlaa
open Go.ChangeShapes Go.WideShapes Go.ChangeAt Go.RowKit Go.Shelf
theorem siz_four (l : List Lp) : ∃ v0 v1 v2 v3 : Int, sizV l = .agg #[.int .i64 v0, .int .i64 v1, .int .i64 v2, .int .i64 v3] := by
  unfold sizV
  split
  · exact ⟨_, _, _, _, rfl⟩
  · exact ⟨_, _, _, _, rfl⟩
set_option maxRecDepth 100000 in
set_option maxHeartbeats 8000000 in
theorem rmeasZ_any (l : List Lp) (m : Bool) (a : Option Addr) (c : Nat) (w : World) (hN : Nst (· < w.heap.size) m w a l) (hs : sizZ l ≤ 1000000) :
    Calls Try.prog 16 #[.slice a l.length c] w fun e w' => e = .returned (.tuple #[sizV l, .int .i64 (chkZ l : Int)]) ∧ Below w.heap.size w w' := by
  have b0 := (Below.refl w.heap.size w).alloc (Nat.le_refl _) (.cells #[.int .i64 0, .int .i64 0, .int .i64 0, .int .i64 0] 31)
  have X0 := hiddenN (blkA_new 31 w #[.int .i64 0, .int .i64 0, .int .i64 0, .int .i64 0])
  have CK := hiddenN (rcheckZ_any l m a c (w.alloc (.cells #[.int .i64 0, .int .i64 0, .int .i64 0, .int .i64 0] 31)) ((hN.below b0).mono fun k hk => Nat.lt_of_lt_of_le hk b0.size) hs)
  have SZ : Hid (chkZ l = 0 → ∀ u, Below w.heap.size w u → Calls Try.prog 30 #[.slice a l.length c] u fun e w' => e = .returned (sizV l) ∧ Below u.heap.size u w') := fun he u hu => by
    have q := sizeZ_any l w.heap.size m a c u (hN.below hu) hu.size (err_pos _ _ _ (chk_zero he).1) (chk_zero he).2 hs
    rw [← dps_zero] at q
    have e1 : sizV l = .agg #[.int .i64 (lvsZ l : Int), .int .i64 (hdsZ l : Int), .int .i64 (dpsZ 0 l : Int), .int .i64 (totZ l : Int)] := by unfold sizV; rw [if_pos he]
    rw [e1]
    exact q
  have NO : Hid (chkZ l ≠ 0 → sizV l = .agg #[.int .i64 0, .int .i64 0, .int .i64 0, .int .i64 0]) := fun he => by unfold sizV; rw [if_neg he]
  have B0 := hiddenN b0
  obtain ⟨E, hE⟩ : ∃ q, chkZ l = q := ⟨_, rfl⟩
  rw [hE] at CK SZ NO
  obtain ⟨v0, v1, v2, v3, hv⟩ := siz_four l
  rw [hv] at SZ NO
  obtain ⟨L, hL⟩ : ∃ q, l.length = q := ⟨_, rfl⟩
  rw [hL] at CK SZ ⊢
  obtain ⟨RE, hRE⟩ : ∃ Q : Ending → World → Prop, (fun e w' => e = .returned (.tuple #[sizV l, .int .i64 (chkZ l : Int)]) ∧ Below w.heap.size w w') = Q := ⟨_, rfl⟩
  rw [hRE]
  rw [hE, hv] at hRE
  have HRE := hiddenN hRE
  clear b0 hN hE hL hRE hs hv
  go_enter Try.func16, Try.ntmps16
  go_upto_region 1 with fail
  obtain ⟨rb, hrb⟩ : ∃ q, w.heap.size = q := ⟨_, rfl⟩
  have HRB := hiddenN hrb
  rw [hrb] at X0 ⊢
  generalize w.alloc (.cells #[.int .i64 0, .int .i64 0, .int .i64 0, .int .i64 0] 31) = W1 at *
  clear hrb
  go_upto_region 2 with (go_at_call 13; (with_reducible refine CK.out.mono ?_); rintro e W2 ⟨rfl, b⟩; have B2 := hiddenN (B0.out.trans (b.mono B0.out.size)); have X2 := hiddenN (X0.out.below b); clear b)
  have f0 := X2.out.frozen 0
  have f1 := X2.out.frozen 1
  have f2 := X2.out.frozen 2
  have f3 := X2.out.frozen 3
  have z0 := X2.out.cell (k := 0) rfl
  have z1 := X2.out.cell (k := 1) rfl
  have z2 := X2.out.cell (k := 2) rfl
  have z3 := X2.out.cell (k := 3) rfl
  simp only [List.getElem_toArray, List.getElem_cons_zero, List.getElem_cons_succ] at z0 z1 z2 z3
  by_cases he : E = 0
  · subst he
    have SX := hiddenN (SZ.out rfl W2 B2.out)
    clear CK SZ NO
    go_wp2_with (go_at_call 30; (with_reducible refine SX.out.mono ?_); rintro e W3 ⟨rfl, b⟩; have B3 := hiddenN (B2.out.trans (b.mono B2.out.size)); have X3 := hiddenN (X2.out.below b); have f0 := X3.out.frozen 0; have f1 := X3.out.frozen 1; have f2 := X3.out.frozen 2; have f3 := X3.out.frozen 3; have z0 := X3.out.cell (k := 0) rfl; have z1 := X3.out.cell (k := 1) rfl; have z2 := X3.out.cell (k := 2) rfl; have z3 := X3.out.cell (k := 3) rfl; simp only [List.getElem_toArray, List.getElem_cons_zero, List.getElem_cons_succ] at z0 z1 z2 z3; clear b)
    refine bodyPost_ret (v := .tuple #[.agg #[.int .i64 v0, .int .i64 v1, .int .i64 v2, .int .i64 v3], .int .i64 0]) (by simp [results, Try.results16, go_sem, z0, z1, z2, z3]) rfl ?_
    rw [← HRE.out]
    exact ⟨rfl, by rw [HRB.out] at *; exact below_set4 B3.out (Nat.le_refl _) _ _ _ _⟩
  · have hb1 : ((E : Int) != 0) = true := by simpa using he
    have hv := NO.out he
    simp at hv
    obtain ⟨rfl, rfl, rfl, rfl⟩ := hv
    clear CK SZ NO
    go_wp2
    refine bodyPost_ret (v := .tuple #[.agg #[.int .i64 0, .int .i64 0, .int .i64 0, .int .i64 0], .int .i64 (E : Int)]) (by simp [results, Try.results16, go_sem, z0, z1, z2, z3]) rfl ?_
    rw [← HRE.out]
    exact ⟨rfl, by rw [HRB.out] at *; exact below_set4 B2.out (Nat.le_refl _) _ _ _ _⟩
set_option maxRecDepth 100000 in
set_option maxHeartbeats 8000000 in
theorem nestMeasures_walk (a : Option Addr) (l : List Lp) (c : Nat) (w : World) (h : Nst (· < w.heap.size) false w a l) : Calls Try.prog 4 #[.slice a l.length c] w fun e w' => e = .returned (.bool true) ∧ Below w.heap.size w w' := by
  have HV := hiddenN (heavyZ_any l (· < w.heap.size) false a c w h)
  have AW := hiddenN awake16
  obtain ⟨RE, hRE⟩ : ∃ Q : Ending → World → Prop, (fun e w' => e = .returned (.bool true) ∧ Below w.heap.size w w') = Q := ⟨_, rfl⟩
  rw [hRE]
  have HRE := hiddenN hRE
  have HN := hiddenN h
  obtain ⟨L, hL⟩ : ∃ q, l.length = q := ⟨_, rfl⟩
  have HL := hiddenN hL
  rw [hL] at HV ⊢
  clear hRE h hL
  go_enter Try.func4, Try.ntmps4
  go_upto_region 3 with (go_at_call 9; (with_reducible refine HV.out.mono ?_); rintro e V0 ⟨b, rfl, hb, hw⟩; subst hw; cases b)
  · have hs : sizZ l ≤ 65536 := by simpa using hb
    have HS : Hid (sizZ l ≤ 1000000) := by show _ ≤ _; omega
    have LE : Hid (Calls Try.prog 10 #[.slice a L c] w (LenE l w)) := by
      have := lentZ_any l w.heap.size false a c w HN.out (Nat.le_refl _) HS.out
      rwa [HL.out] at this
    have ME : Hid (∀ u B g cc, LtdZ B u g cc l → Calls Try.prog 15 #[.slice (some ⟨g, 0, none⟩) L cc] u fun e w' => e = .returned (.tuple #[sizV l, .int .i64 (chkZ l : Int)]) ∧ Below u.heap.size u w') := fun u B g cc h => by
      have := measZ_any l true (some ⟨g, 0, none⟩) cc u h.bare HS.out
      rwa [HL.out] at this
    have RM : Hid (∀ u, Below w.heap.size w u → Calls Try.prog 16 #[.slice a L c] u fun e w' => e = .returned (.tuple #[sizV l, .int .i64 (chkZ l : Int)]) ∧ Below u.heap.size u w') := fun u hu => by
      have := rmeasZ_any l false a c u ((HN.out.below hu).mono fun k hk => Nat.lt_of_lt_of_le hk hu.size) HS.out
      rwa [HL.out] at this
    have KP : Hid (∀ u B g cc, LtdZ B u g cc l → Below w.heap.size w u → Calls Try.prog 14 #[.slice (some ⟨g, 0, none⟩) L cc, .slice a L c] u fun e w' => e = .returned (.bool true) ∧ ∃ n, w' = u.drewN n) := fun u B g cc h hu => by
      have := keptZ_any l (fun k => B ≤ k ∧ TyZ u k) (· < w.heap.size) false g 0 cc a c u h.nst h.cap (HN.out.below hu) HS.out
      rwa [HL.out] at this
    unfold LenE at LE
    obtain ⟨E, hE⟩ : ∃ q, chkZ l = q := ⟨_, rfl⟩
    obtain ⟨v0, v1, v2, v3, hv⟩ := siz_four l
    rw [hE, hv] at ME RM
    have e1 : ((E : Int) == (E : Int)) = true := by simp
    clear hb hs hE HV hv
    go_upto_region 4 with (go_at_call 10; (with_reducible refine LE.out.mono ?_); rintro e V1 ⟨g1, c1, rfl, hl, b⟩; rw [HL.out]; have T1 := hiddenN hl; have L1 := hiddenN b; clear hl b)
    go_upto_region 5 with (go_at_call 15; (with_reducible refine (ME.out V1 _ g1 c1 T1.out).mono ?_); rintro e V2 ⟨rfl, b⟩; have L2 := hiddenN (L1.out.trans (b.mono L1.out.size)); have T2 := hiddenN (T1.out.later b); clear b)
    have b3 := (Below.refl V2.heap.size V2).alloc (Nat.le_refl _) (.cells #[.int .i64 v0, .int .i64 v1, .int .i64 v2, .int .i64 v3] 31)
    have X3 := hiddenN (blkA_new 31 V2 #[.int .i64 v0, .int .i64 v1, .int .i64 v2, .int .i64 v3])
    have L3 := hiddenN (L2.out.trans (b3.mono L2.out.size))
    have T3 := hiddenN (T2.out.later b3)
    obtain ⟨zb, hzb⟩ : ∃ q, V2.heap.size = q := ⟨_, rfl⟩
    rw [hzb] at X3 ⊢
    clear b3 hzb L1 L2 T1 T2
    generalize V2.alloc (.cells #[.int .i64 v0, .int .i64 v1, .int .i64 v2, .int .i64 v3] 31) = V3 at *
    go_upto_region 6 with (go_at_call 16; (with_reducible refine (RM.out V3 L3.out).mono ?_); rintro e V4 ⟨rfl, b⟩; have L4 := hiddenN (L3.out.trans (b.mono L3.out.size)); have T4 := hiddenN (T3.out.later b); have X4 := hiddenN (X3.out.below b); clear b)
    have b5 := (Below.refl V4.heap.size V4).alloc (Nat.le_refl _) (.cells #[.int .i64 v0, .int .i64 v1, .int .i64 v2, .int .i64 v3] 31)
    have Y5 := hiddenN (blkA_new 31 V4 #[.int .i64 v0, .int .i64 v1, .int .i64 v2, .int .i64 v3])
    have X5 := hiddenN (X4.out.below b5)
    have L5 := hiddenN (L4.out.trans (b5.mono L4.out.size))
    have T5 := hiddenN (T4.out.later b5)
    obtain ⟨yb, hyb⟩ : ∃ q, V4.heap.size = q := ⟨_, rfl⟩
    rw [hyb] at Y5 ⊢
    clear b5 hyb L3 L4 T3 T4 X3 X4
    generalize V4.alloc (.cells #[.int .i64 v0, .int .i64 v1, .int .i64 v2, .int .i64 v3] 31) = V5 at *
    have AW5 := hiddenN (AW.out V5)
    clear ME RM LE AW
    go_wp2_with (first
      | (go_at_call 11; (with_reducible refine AW5.out.mono ?_); rintro e V6 ⟨rfl, b⟩; have L6 := hiddenN (L5.out.trans (b.mono L5.out.size)); have T6 := hiddenN (T5.out.later b); have KP6 := hiddenN (KP.out V6 _ g1 c1 T6.out L6.out); have x6 := X5.out.below b; have y6 := Y5.out.below b; have x0 := x6.cell (k := 0) rfl; have x1 := x6.cell (k := 1) rfl; have x2 := x6.cell (k := 2) rfl; have x3 := x6.cell (k := 3) rfl; have y0 := y6.cell (k := 0) rfl; have y1 := y6.cell (k := 1) rfl; have y2 := y6.cell (k := 2) rfl; have y3 := y6.cell (k := 3) rfl; simp only [List.getElem_toArray, List.getElem_cons_zero, List.getElem_cons_succ] at x0 x1 x2 x3 y0 y1 y2 y3; clear b x6 y6)
      | (go_at_call 14; (with_reducible refine KP6.out.mono ?_); rintro e V7 ⟨rfl, n7, hn7⟩; have L7 : Hid (Below w.heap.size w V7) := (by show Below _ _ _; rw [hn7]; exact drewB L6.out n7); clear hn7))
    rw [← HRE.out]
    exact ⟨by first | rfl | simp, L7.out⟩
  · rw [← HRE.out]
    exact ⟨rfl, Below.refl _ _⟩
end Go.Proofs.Ythgmdaaiolgjlaa
