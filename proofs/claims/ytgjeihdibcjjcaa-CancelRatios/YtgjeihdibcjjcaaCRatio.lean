/- The document's Ratio of chapter 3 (pianolaref03), and the walk through the statement CancelRatios. (Written by tmpl/mkCRatios.py.) -/
import Derived.Test.YtgjeihdibcjjcaaCRed
import Derived.Test.YtgjeihdibcjjcaaBigIntB
import Derived.Test.YtgjeihdibcjjcaaCAwake
namespace Go.Proofs.Ytgjeihdibcjjcaa
open Go.ChangeShapes Go.WideShapes Go.ChangeAt Go.RowKit

set_option maxRecDepth 100000 in
set_option maxHeartbeats 1000000 in
theorem rratio_any (a1 a2 : Option Addr) (xs ys : List Int) (l1 c1 l2 c2 : Nat) (w : World) (h1 : Arg w a1 l1 c1 xs) (h2 : Arg w a2 l2 c2 ys) :
    Calls Try.prog 19 #[.slice a1 l1 c1, .slice a2 l2 c2] w (RtEnd w xs ys) := by
  have B0 : Below w.heap.size w (w.alloc (.cells #[.int .i64 0, .int .i64 0] 34)) := (Below.refl _ _).alloc (Nat.le_refl _) _
  have K0 := var2_new w (.int .i64 0) (.int .i64 0) 34
  have hr := rreduce_any a1 a2 xs ys l1 c1 l2 c2 _ (h1.below B0) (h2.below B0)
  have HV : Hid (Below w.heap.size w (w.alloc (.cells #[.int .i64 0, .int .i64 0] 34)) ∧ Var2 (w.alloc (.cells #[.int .i64 0, .int .i64 0] 34)) w.heap.size (.int .i64 0) (.int .i64 0)) := ⟨B0, K0⟩
  obtain ⟨i1, i2⟩ := cA_in h1.fits h2.fits
  obtain ⟨n1, n2⟩ := cA_len (xs := xs) (ys := ys)
  have P1 : Hid (∀ W a c, CapR (w.alloc (.cells #[.int .i64 0, .int .i64 0] 34)).heap.size W a c (cA xs ys) → Calls Try.prog 23 #[.slice a (cA xs ys).length c] W (MadeWh W (prodI (cA xs ys)) (3 + 3 * (cA xs ys).length))) := fun W a c h => product_wh a (cA xs ys) _ c W rfl (by omega) i1 h.at
  have P2 : Hid (∀ W a c, CapR (w.alloc (.cells #[.int .i64 0, .int .i64 0] 34)).heap.size W a c (cB xs ys) → Calls Try.prog 23 #[.slice a (cB xs ys).length c] W (MadeWh W (prodI (cB xs ys)) (3 + 3 * (cB xs ys).length))) := fun W a c h => product_wh a (cB xs ys) _ c W rfl (by omega) i2 h.at
  have TI : Hid (∀ x W n3 a3 l3 c3 d3, Wh W n3 a3 l3 c3 d3 x → Calls Try.prog 33 #[.agg #[.bool n3, .slice a3 l3 c3]] W (ToInt W x)) := fun x W n3 a3 l3 c3 d3 h => toInt_any n3 a3 l3 c3 d3 x W h
  clear h1 h2 B0 K0 i1 i2 n1 n2
  unfold RRedEnd at hr
  by_cases h0 : cE xs ys = 0
  · obtain ⟨f1, f2⟩ := cA_ok h0
    have e1 : prodI (cA xs ys) = (rP xs ys : Int) := by rw [f1, prodI_up]; rfl
    have e2 : prodI (cB xs ys) = (rQ xs ys : Int) := by rw [f2, prodI_up]; rfl
    rw [e1] at P1
    rw [e2] at P2
    have H0 : Hid (cE xs ys = 0) := h0
    have HEE : Hid (cE xs ys = 0) := h0
    clear f1 f2 e1 e2
    obtain ⟨xp, hxp⟩ : ∃ xp, (rP xs ys : Int) = xp := ⟨_, rfl⟩
    obtain ⟨xq, hxq⟩ : ∃ xq, (rQ xs ys : Int) = xq := ⟨_, rfl⟩
    rw [hxp] at P1
    rw [hxq] at P2
    have HXP : Hid ((rP xs ys : Int) = xp) := hxp
    have HXQ : Hid ((rQ xs ys : Int) = xq) := hxq
    clear hxp hxq h0
    generalize (cA xs ys).length = k1 at *
    generalize (cB xs ys).length = k2 at *
    cases hF : fitB xp
    · cases hG : fitB xq
      · have HXF : fitB xp = false := hF
        have HYF : fitB xq = false := hG
        have KE : Hid (rtN xs ys = 0 ∧ rtD xs ys = 0 ∧ rtE xs ys = 4) := rt_big H0.out (by unfold rtB; rw [HXP.out, HXQ.out, hF, hG]; rfl)
        clear hF hG
        go_enter Try.func19, Try.ntmps19
        go_wp2_with (first
          | (go_at_call 11; refine hr.mono ?_; rintro e w1 ⟨hb, a, b, n1, n2, rfl, o1, o2⟩; rw [HEE.out]; have R := HV.out.2.later hb HV.out.2.lt; have hb' := HV.out.1.trans (hb.mono HV.out.1.size))
          | (go_at_call 33; (with_reducible refine (TI.out _ _ _ _ _ _ _ wh3).mono ?_); rintro e w3 ⟨rfl, b3⟩; rw [HXF]; have R3 := R2.later b3 R2.lt; have hb3 := hb2.trans (b3.mono hb2.size))
          | (go_at_call 33; (with_reducible refine (TI.out _ _ _ _ _ _ _ wh5).mono ?_); rintro e w5 ⟨rfl, b5⟩; rw [HYF]; have R5 := R4.later b5 R4.lt; have hb5 := hb4.trans (b5.mono hb4.size); have r0 := R5.c0; have r1 := R5.c1; have f0 := R5.f0; have f1 := R5.f1)
          | (go_at_call 23; (with_reducible refine (P1.out w1 _ _ o1).mono ?_); rintro e w2 ⟨ng2, ad2, l2', p2', ds2, rfl, wh3, b2, -⟩; have R2 := R.later b2 R.lt; have hb2 := hb'.trans (b2.mono hb'.size))
          | (go_at_call 23; (with_reducible refine (P2.out w3 _ _ (o2.later (b2.trans (b3.mono b2.size)))).mono ?_); rintro e w4 ⟨ng4, ad4, l4', p4', ds4, rfl, wh5, b4, -⟩; have R4 := R3.later b4 R3.lt; have hb4 := hb3.trans (b4.mono hb3.size)))
        refine bodyPost_ret (v := .tuple #[.agg #[.int .i64 0, .int .i64 0], .int .i64 4]) (by simp [results, Try.results19, go_sem, r0, r1]) rfl ⟨by rw [KE.out.1, KE.out.2.1, KE.out.2.2], ?_⟩
        exact (hb5.setCell (by simp) _).setCell (by simp) _
      · skip
        have HXF : fitB xp = false := hF
        have HYF : fitB xq = true := hG
        have KE : Hid (rtN xs ys = 0 ∧ rtD xs ys = 0 ∧ rtE xs ys = 4) := rt_big H0.out (by unfold rtB; rw [HXP.out, HXQ.out, hF, hG]; rfl)
        clear hF hG
        go_enter Try.func19, Try.ntmps19
        go_wp2_with (first
          | (go_at_call 11; refine hr.mono ?_; rintro e w1 ⟨hb, a, b, n1, n2, rfl, o1, o2⟩; rw [HEE.out]; have R := HV.out.2.later hb HV.out.2.lt; have hb' := HV.out.1.trans (hb.mono HV.out.1.size))
          | (go_at_call 33; (with_reducible refine (TI.out _ _ _ _ _ _ _ wh3).mono ?_); rintro e w3 ⟨rfl, b3⟩; rw [HXF]; have R3 := R2.later b3 R2.lt; have hb3 := hb2.trans (b3.mono hb2.size))
          | (go_at_call 33; (with_reducible refine (TI.out _ _ _ _ _ _ _ wh5).mono ?_); rintro e w5 ⟨rfl, b5⟩; rw [HYF]; have R5 := R4.later b5 R4.lt; have hb5 := hb4.trans (b5.mono hb4.size); have r0 := R5.c0; have r1 := R5.c1; have f0 := R5.f0; have f1 := R5.f1)
          | (go_at_call 23; (with_reducible refine (P1.out w1 _ _ o1).mono ?_); rintro e w2 ⟨ng2, ad2, l2', p2', ds2, rfl, wh3, b2, -⟩; have R2 := R.later b2 R.lt; have hb2 := hb'.trans (b2.mono hb'.size))
          | (go_at_call 23; (with_reducible refine (P2.out w3 _ _ (o2.later (b2.trans (b3.mono b2.size)))).mono ?_); rintro e w4 ⟨ng4, ad4, l4', p4', ds4, rfl, wh5, b4, -⟩; have R4 := R3.later b4 R3.lt; have hb4 := hb3.trans (b4.mono hb3.size)))
        refine bodyPost_ret (v := .tuple #[.agg #[.int .i64 0, .int .i64 0], .int .i64 4]) (by simp [results, Try.results19, go_sem, r0, r1]) rfl ⟨by rw [KE.out.1, KE.out.2.1, KE.out.2.2], ?_⟩
        exact (hb5.setCell (by simp) _).setCell (by simp) _
    · cases hG : fitB xq
      · skip
        have HXF : fitB xp = true := hF
        have HYF : fitB xq = false := hG
        have KE : Hid (rtN xs ys = 0 ∧ rtD xs ys = 0 ∧ rtE xs ys = 4) := rt_big H0.out (by unfold rtB; rw [HXP.out, HXQ.out, hF, hG]; rfl)
        clear hF hG
        go_enter Try.func19, Try.ntmps19
        go_wp2_with (first
          | (go_at_call 11; refine hr.mono ?_; rintro e w1 ⟨hb, a, b, n1, n2, rfl, o1, o2⟩; rw [HEE.out]; have R := HV.out.2.later hb HV.out.2.lt; have hb' := HV.out.1.trans (hb.mono HV.out.1.size))
          | (go_at_call 33; (with_reducible refine (TI.out _ _ _ _ _ _ _ wh3).mono ?_); rintro e w3 ⟨rfl, b3⟩; rw [HXF]; have R3 := R2.later b3 R2.lt; have hb3 := hb2.trans (b3.mono hb2.size))
          | (go_at_call 33; (with_reducible refine (TI.out _ _ _ _ _ _ _ wh5).mono ?_); rintro e w5 ⟨rfl, b5⟩; rw [HYF]; have R5 := R4.later b5 R4.lt; have hb5 := hb4.trans (b5.mono hb4.size); have r0 := R5.c0; have r1 := R5.c1; have f0 := R5.f0; have f1 := R5.f1)
          | (go_at_call 23; (with_reducible refine (P1.out w1 _ _ o1).mono ?_); rintro e w2 ⟨ng2, ad2, l2', p2', ds2, rfl, wh3, b2, -⟩; have R2 := R.later b2 R.lt; have hb2 := hb'.trans (b2.mono hb'.size))
          | (go_at_call 23; (with_reducible refine (P2.out w3 _ _ (o2.later (b2.trans (b3.mono b2.size)))).mono ?_); rintro e w4 ⟨ng4, ad4, l4', p4', ds4, rfl, wh5, b4, -⟩; have R4 := R3.later b4 R3.lt; have hb4 := hb3.trans (b4.mono hb3.size)))
        refine bodyPost_ret (v := .tuple #[.agg #[.int .i64 0, .int .i64 0], .int .i64 4]) (by simp [results, Try.results19, go_sem, r0, r1]) rfl ⟨by rw [KE.out.1, KE.out.2.1, KE.out.2.2], ?_⟩
        exact (hb5.setCell (by simp) _).setCell (by simp) _
      · skip
        have HXF : fitB xp = true := hF
        have HYF : fitB xq = true := hG
        have KE : Hid (rtN xs ys = xp ∧ rtD xs ys = xq ∧ rtE xs ys = 0) := by rw [← HXP.out, ← HXQ.out]; exact rt_ok H0.out (by unfold rtB; rw [HXP.out, HXQ.out, hF, hG]; rfl)
        have V1 : fitV xp = xp := fitV_yes (fitB_true.1 hF)
        have V2 : fitV xq = xq := fitV_yes (fitB_true.1 hG)
        clear hF hG
        go_enter Try.func19, Try.ntmps19
        go_wp2_with (first
          | (go_at_call 11; refine hr.mono ?_; rintro e w1 ⟨hb, a, b, n1, n2, rfl, o1, o2⟩; rw [HEE.out]; have R := HV.out.2.later hb HV.out.2.lt; have hb' := HV.out.1.trans (hb.mono HV.out.1.size))
          | (go_at_call 33; (with_reducible refine (TI.out _ _ _ _ _ _ _ wh3).mono ?_); rintro e w3 ⟨rfl, b3⟩; rw [HXF, V1]; have R3 := R2.later b3 R2.lt; have hb3 := hb2.trans (b3.mono hb2.size))
          | (go_at_call 33; (with_reducible refine (TI.out _ _ _ _ _ _ _ wh5).mono ?_); rintro e w5 ⟨rfl, b5⟩; rw [HYF, V2]; have R5 := R4.later b5 R4.lt; have hb5 := hb4.trans (b5.mono hb4.size); have r0 := R5.c0; have r1 := R5.c1; have f0 := R5.f0; have f1 := R5.f1)
          | (go_at_call 23; (with_reducible refine (P1.out w1 _ _ o1).mono ?_); rintro e w2 ⟨ng2, ad2, l2', p2', ds2, rfl, wh3, b2, -⟩; have R2 := R.later b2 R.lt; have hb2 := hb'.trans (b2.mono hb'.size))
          | (go_at_call 23; (with_reducible refine (P2.out w3 _ _ (o2.later (b2.trans (b3.mono b2.size)))).mono ?_); rintro e w4 ⟨ng4, ad4, l4', p4', ds4, rfl, wh5, b4, -⟩; have R4 := R3.later b4 R3.lt; have hb4 := hb3.trans (b4.mono hb3.size)))
        refine bodyPost_ret (v := .tuple #[.agg #[.int .i64 xp, .int .i64 xq], .int .i64 0]) (by simp [results, Try.results19, go_sem, r0, r1]) rfl ⟨by rw [KE.out.1, KE.out.2.1, KE.out.2.2], ?_⟩
        exact (hb5.setCell (by simp) _).setCell (by simp) _
  · have e0 : ((cE xs ys) != 0) = true := by simpa using h0
    have KE : Hid (rtN xs ys = 0 ∧ rtD xs ys = 0 ∧ rtE xs ys = cE xs ys) := rt_bad h0
    clear h0 P1 P2 TI
    generalize hEE : cE xs ys = E at *
    have HEE : Hid (cE xs ys = E) := hEE
    clear hEE
    generalize (cA xs ys).length = k1 at *
    generalize (cB xs ys).length = k2 at *
    go_enter Try.func19, Try.ntmps19
    go_wp2_with (go_at_call 11; refine hr.mono ?_; rintro e w1 ⟨hb, a, b, n1, n2, rfl, -, -⟩; have R := HV.out.2.later hb HV.out.2.lt; have hb' := HV.out.1.trans (hb.mono HV.out.1.size); have r0 := R.c0; have r1 := R.c1; have f0 := R.f0; have f1 := R.f1)
    refine bodyPost_ret (v := .tuple #[.agg #[.int .i64 0, .int .i64 0], .int .i64 E]) (by simp [results, Try.results19, go_sem, r0, r1]) rfl ⟨by rw [KE.out.1, KE.out.2.1, KE.out.2.2], ?_⟩
    exact (hb'.setCell (by simp) _).setCell (by simp) _

set_option maxRecDepth 100000 in
set_option maxHeartbeats 700000 in
theorem cratios_any (a1 : Option Addr) (len1 cap1 : Nat) (xs : List Int) (a2 : Option Addr) (len2 cap2 : Nat) (ys : List Int) (w : World) (hA1 : Arg w a1 len1 cap1 xs) (hA2 : Arg w a2 len2 cap2 ys) :
    Calls Try.prog 5 #[.slice a1 len1 cap1, .slice a2 len2 cap2] w fun e w' => e = .returned (.bool true) ∧ Below w.heap.size w w' := by
  have hr1 := hA1.reach
  have hr2 := hA2.reach
  have L1 : Hid (∀ W, Arg W a1 len1 cap1 xs → Calls Try.prog 9 #[.slice a1 len1 cap1] W (LentEnd W len1 xs)) := fun W h => lent_any a1 xs len1 cap1 W h
  have L2 : Hid (∀ W, Arg W a2 len2 cap2 ys → Calls Try.prog 9 #[.slice a2 len2 cap2] W (LentEnd W len2 ys)) := fun W h => lent_any a2 ys len2 cap2 W h
  have D1 : Hid (∀ b1 b2 c1 c2 W, At W b1 xs → At W b2 ys → Calls Try.prog 18 #[.slice b1 len1 c1, .slice b2 len2 c2] W (RtEnd W xs ys)) :=
    fun b1 b2 c1 c2 W k1 k2 => ratio_any b1 b2 xs ys len1 c1 len2 c2 W hA1.size hA2.size (by omega) (by omega) hA1.fits hA2.fits k1 k2
  have D2 : Hid (∀ W, Arg W a1 len1 cap1 xs → Arg W a2 len2 cap2 ys → Calls Try.prog 19 #[.slice a1 len1 cap1, .slice a2 len2 cap2] W (RtEnd W xs ys)) :=
    fun W k1 k2 => rratio_any a1 a2 xs ys len1 cap1 len2 cap2 W k1 k2
  have HA1 : Hid (Arg w a1 len1 cap1 xs) := hA1
  have HA2 : Hid (Arg w a2 len2 cap2 ys) := hA2
  have K1 : Hid (∀ g W, Lend w.heap.size W g len1 xs → Arg W a1 len1 cap1 xs → Calls Try.prog 13 #[.slice (some ⟨g, 0, none⟩) len1 (len1 + 4), .slice a1 len1 cap1] W (fun e w' => ∃ n : Nat, e = .returned (.bool true) ∧ w' = W.drewN n)) :=
    fun g W k1 k2 => kept_any g a1 xs len1 cap1 w.heap.size W k1 k2
  have K2 : Hid (∀ g b W, Lend b W g len2 ys → Arg W a2 len2 cap2 ys → Calls Try.prog 13 #[.slice (some ⟨g, 0, none⟩) len2 (len2 + 4), .slice a2 len2 cap2] W (fun e w' => ∃ n : Nat, e = .returned (.bool true) ∧ w' = W.drewN n)) :=
    fun g b W k1 k2 => kept_any g a2 ys len2 cap2 b W k1 k2
  clear hA1 hA2
  unfold RtEnd at D1 D2
  generalize rtN xs ys = n at *
  generalize rtD xs ys = d at *
  generalize rtE xs ys = f at *
  have q1 : (n == n) = true := by simp
  have q2 : (f == f) = true := by simp
  have q3 : (d == d) = true := by simp
  go_enter Try.func5, Try.ntmps5
  go_wp2_with (first
    | (go_at_call 13; (with_reducible refine (K2.out _ _ _ (hlend2.below (bdrew hM n4)) (HA2.out.below (bdrew hB4 n4))).mono ?_); rintro e w5 ⟨n5, rfl, rfl⟩)
    | (go_at_call 13; (with_reducible refine (K1.out _ _ hL1 (HA1.out.below hB4)).mono ?_); rintro e w5 ⟨n4, rfl, rfl⟩)
    | (go_at_call 14; (with_reducible refine (awake3 _).mono ?_); rintro e w4 ⟨rfl, hbel4⟩; have hB4 := hB3.trans (hbel4.mono hB3.size); have hM := hM3.trans (hbel4.mono hM3.size); have hL1 := hL2.below (hN3.trans (hbel4.mono hN3.size)); have X4 := X3.later hbel4 X3.lt; have Y4 := Y3.later hbel4 Y3.lt; have x0 := X4.c0; have x1 := X4.c1; have y0 := Y4.c0; have y1 := Y4.c1)
    | (go_at_call 19; (with_reducible refine (D2.out _ (HA1.out.below hBq) (HA2.out.below hBq)).mono ?_); rintro e w3 ⟨rfl, hbel3⟩; have hB3' := hBq.trans (hbel3.mono hBq.size); have hB3 := hB3'.alloc hB3'.size (.cells #[.int .i64 n, .int .i64 d] 34); have hM3' := hbelq'.trans (hbel3.mono hbelq'.size); have hM3 := hM3'.alloc hM3'.size (.cells #[.int .i64 n, .int .i64 d] 34); have hN3 := hbel3.alloc hbel3.size (.cells #[.int .i64 n, .int .i64 d] 34); have hL2 := hL0.below hbelq'; have X3 := (Xq.later hbel3 Xq.lt).alloc (.cells #[.int .i64 n, .int .i64 d] 34); have Y3 := var2_new w3 (.int .i64 n) (.int .i64 d) 34)
    | (go_at_call 18; (with_reducible refine (D1.out _ _ _ _ _ hL0.at hlend2.at).mono ?_); rintro e wq ⟨rfl, hbelq⟩; have hbelq' := hbelq.alloc hbelq.size (.cells #[.int .i64 n, .int .i64 d] 34); have hBq' := hB2.trans (hbelq.mono hB2.size); have hBq := hBq'.alloc hBq'.size (.cells #[.int .i64 n, .int .i64 d] 34); have Xq := var2_new wq (.int .i64 n) (.int .i64 d) 34)
    | (go_at_call 9; (with_reducible refine (L2.out w1 (HA2.out.below hbel1)).mono ?_); rintro e w2 ⟨g2, rfl, hlend2, hbel2⟩; have hB2 := hbel1.trans (hbel2.mono hbel1.size); have hL0 := hlend1.below hbel2)
    | (go_at_call 9; (with_reducible refine (L1.out w HA1.out).mono ?_); rintro e w1 ⟨g1, rfl, hlend1, hbel1⟩))
  go_ret
  exact ⟨rfl, by first | exact bdrew (bdrew hB4 n4) n5 | exact bdrew hB4 _⟩
end Go.Proofs.Ytgjeihdibcjjcaa
