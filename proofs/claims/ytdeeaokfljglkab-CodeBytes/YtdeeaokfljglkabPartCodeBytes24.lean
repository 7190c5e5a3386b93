/- Texts of one chain, laid one behind the other. -/
import Derived.Test.YtdeeaokfljglkabPartCodeBytes23
import Derived.Test.YtdeeaokfljglkabPartCodeBytes6
import Derived.Deep.SlicePairs
import Derived.SizedLaws
namespace Go.Proofs.Ytdeeaokfljglkab
open Go.ChangeShapes Go.WideShapes Go.ChangeAt Go.RowKit
theorem encT_good {p : PrgC} (h : (stepC codeS p).2 = 0) : encT p = encC p := by unfold encT; rw [if_pos h]
theorem decode_good {p : PrgC} {D : List UInt8} (hd : decC codeS D = .ok p) (hl : D.length ≤ 4611686018427387904) (U : World) : Calls Try.prog 7 #[.string (strC D)] U fun e w' => ∃ b1 d1 b2 d2 b3 d3 MP ML, e = .returned (.tuple #[prgV p b1 d1 b2 d2 b3 d3, .agg #[.int .i64 0, .int .i64 0]]) ∧ PrgO U.heap.size w' p b1 d1 b2 d2 b3 d3 MP ML ∧ Below U.heap.size U w' := by
  refine (decode_any D hl U).mono fun e w' h => ?_
  unfold DecE at h
  rw [hd] at h
  obtain ⟨⟨a1, c1, a2, c2, a3, c3, MP, ML, h1, h2⟩, h3⟩ := h
  exact ⟨a1, c1, a2, c2, a3, c3, MP, ML, h1, h2, h3⟩
theorem decode_bad {D : List UInt8} {x : Int × Nat} (hd : decC codeS D = .error x) (hl : D.length ≤ 4611686018427387904) (U : World) : Calls Try.prog 7 #[.string (strC D)] U fun e w' => e = .returned (.tuple #[.agg #[.int .i64 0, .int .i64 0, .int .i64 0, .int .i64 0, .slice none 0 0, .slice none 0 0, .slice none 0 0], .agg #[.int .i64 x.1, .int .i64 (x.2 : Int)]]) ∧ Below U.heap.size U w' := by
  refine (decode_any D hl U).mono fun e w' h => ?_
  unfold DecE at h
  rw [hd] at h
  exact h
theorem fitP_of {p : PrgC} (h : PrgOk p) : FitP p := fit_of h
set_option maxRecDepth 100000 in
set_option maxHeartbeats 8000000 in
theorem codeBytes_walk (D : List UInt8) (W : World) (hD : D.length ≤ 140737488351232) :
    Calls Try.prog 3 #[.string (strC D)] W fun e w' => e = .returned (.bool true) ∧ Below W.heap.size W w' := by
  obtain ⟨PE, hPE⟩ : ∃ Q : Ending → World → Prop, (fun e w' => e = .returned (.bool true) ∧ Below W.heap.size W w') = Q := ⟨_, rfl⟩
  rw [hPE]
  have HPE := hiddenC hPE
  have AW := hiddenC awake20
  have hsz : (strC D).size = D.length := rfl
  cases hd : decC codeS D with
  | error x =>
    obtain ⟨c, a⟩ := x
    obtain ⟨hc, ha⟩ := dec_err hd
    have DE := hiddenC (decode_bad hd (by omega) W)
    have hcb : (c != 0) = true := by simpa using hc
    generalize strC D = S at *
    generalize D.length = n at *
    have ha0 : (a : Int) ≥ 0 := by omega
    have ha1 : (a : Int) ≤ (n : Int) := by omega
    clear hPE hd hc ha
    go_enter Try.func3, Try.ntmps3
    go_upto_region 2 with (go_at_call 7; (with_reducible refine DE.out.mono ?_); rintro e w3 ⟨rfl, q2⟩; have B3 := hiddenC q2; clear q2)
    have s1 : (w3.alloc (.cells #[.int .i64 0, .int .i64 0, .int .i64 0, .int .i64 0, .slice none 0 0, .slice none 0 0, .slice none 0 0] 26)).heap.size = w3.heap.size + 1 := World.size_alloc ..
    have lb1 := (Below.refl w3.heap.size w3).alloc (Nat.le_refl _) (.cells #[.int .i64 0, .int .i64 0, .int .i64 0, .int .i64 0, .slice none 0 0, .slice none 0 0, .slice none 0 0] 26)
    have lb2 := lb1.alloc lb1.size (.cells #[.int .i64 c, .int .i64 (a : Int)] 29)
    have g1 := (blkA_new 26 w3 #[.int .i64 0, .int .i64 0, .int .i64 0, .int .i64 0, .slice none 0 0, .slice none 0 0, .slice none 0 0]).below ((Below.refl _ _).alloc (Nat.le_refl _) (.cells #[.int .i64 c, .int .i64 (a : Int)] 29))
    have g2 := blkA_new 29 (w3.alloc (.cells #[.int .i64 0, .int .i64 0, .int .i64 0, .int .i64 0, .slice none 0 0, .slice none 0 0, .slice none 0 0] 26)) #[.int .i64 c, .int .i64 (a : Int)]
    rw [s1] at g2
    have B4 := hiddenC (B3.out.trans (lb2.mono B3.out.size))
    generalize (w3.alloc (.cells #[.int .i64 0, .int .i64 0, .int .i64 0, .int .i64 0, .slice none 0 0, .slice none 0 0, .slice none 0 0] 26)).alloc (.cells #[.int .i64 c, .int .i64 (a : Int)] 29) = W5 at *
    obtain ⟨pb, hpb⟩ : ∃ q, w3.heap.size = q := ⟨_, rfl⟩
    obtain ⟨fb, hfb⟩ : ∃ q, pb + 1 = q := ⟨_, rfl⟩
    rw [hpb] at g1 g2 ⊢
    rw [hfb] at g2 ⊢
    have H1 := hiddenC g1
    have H2 := hiddenC g2
    clear s1 lb1 lb2 g1 g2 hpb hfb
    have x0 := H1.out.cell (k := 0) rfl
    have x1 := H1.out.cell (k := 1) rfl
    have x2 := H1.out.cell (k := 2) rfl
    have x3 := H1.out.cell (k := 3) rfl
    have x4 := H1.out.cell (k := 4) rfl
    have x5 := H1.out.cell (k := 5) rfl
    have x6 := H1.out.cell (k := 6) rfl
    simp only [List.getElem_toArray, List.getElem_cons_zero, List.getElem_cons_succ] at x0 x1 x2 x3 x4 x5 x6
    have f0 := H2.out.cell (k := 0) rfl
    have f1 := H2.out.cell (k := 1) rfl
    simp only [List.getElem_toArray, List.getElem_cons_zero, List.getElem_cons_succ] at f0 f1
    go_wp2_with (go_at_call 8; (with_reducible refine (AW.out _).mono ?_); rintro e w8 ⟨rfl, q2⟩; have B8 := hiddenC (B4.out.trans (q2.mono B4.out.size)); clear q2)
    rw [← HPE.out]
    exact ⟨rfl, B8.out⟩
  | ok p =>
    obtain ⟨he, h0, hok⟩ := enc_dec hd
    have hF := fitP_of hok
    have DE := hiddenC (decode_good hd (by omega) W)
    have EN : Hid (∀ U b1 d1 b2 d2 b3 d3 MP ML, PrgL U p b1 b2 b3 MP ML → Calls Try.prog 9 #[prgV p b1 d1 b2 d2 b3 d3] U fun e w' => e = .returned (.tuple #[.string (strC D), .int .i64 0]) ∧ Below U.heap.size U w') := fun U b1 d1 b2 d2 b3 d3 MP ML hM => by
      have q := encode_any p b1 d1 b2 d2 b3 d3 MP ML U hM hF
      rw [encT_good h0, he, h0] at q
      exact q
    have CK : Hid (∀ U b1 d1 b2 d2 b3 d3 MP ML, PrgL U p b1 b2 b3 MP ML → Calls Try.prog 10 #[prgV p b1 d1 b2 d2 b3 d3] U fun e w' => e = .returned (.int .i64 0) ∧ Below U.heap.size U w') := fun U b1 d1 b2 d2 b3 d3 MP ML hM => by
      have q := checkC_any p b1 d1 b2 d2 b3 d3 MP ML U hM hF
      rw [h0] at q
      exact q
    unfold prgV at DE EN CK
    generalize p.parts.length = nP at *
    generalize p.lines.length = nL at *
    generalize p.ops.length = nO at *
    generalize strC D = S at *
    clear hPE hd he h0 hok hF hD hsz
    go_enter Try.func3, Try.ntmps3
    go_upto_region 2 with (go_at_call 7; (with_reducible refine DE.out.mono ?_); rintro e w3 ⟨b1, d1, b2, d2, b3, d3, MP, ML, rfl, q1, q2⟩; have L3 := hiddenC q1.lies; have B3 := hiddenC q2; clear q1 q2)
    have s1 : (w3.alloc (.cells #[.int .i64 p.mem, .int .i64 p.cnt, .int .i64 p.ins, .int .i64 p.outs, .slice b1 nP d1, .slice b2 nL d2, .slice b3 nO d3] 26)).heap.size = w3.heap.size + 1 := World.size_alloc ..
    have lb1 := (Below.refl w3.heap.size w3).alloc (Nat.le_refl _) (.cells #[.int .i64 p.mem, .int .i64 p.cnt, .int .i64 p.ins, .int .i64 p.outs, .slice b1 nP d1, .slice b2 nL d2, .slice b3 nO d3] 26)
    have lb2 := lb1.alloc lb1.size (.cells #[.int .i64 0, .int .i64 0] 29)
    have g1 := (blkA_new 26 w3 #[.int .i64 p.mem, .int .i64 p.cnt, .int .i64 p.ins, .int .i64 p.outs, .slice b1 nP d1, .slice b2 nL d2, .slice b3 nO d3]).below ((Below.refl _ _).alloc (Nat.le_refl _) (.cells #[.int .i64 0, .int .i64 0] 29))
    have g2 := blkA_new 29 (w3.alloc (.cells #[.int .i64 p.mem, .int .i64 p.cnt, .int .i64 p.ins, .int .i64 p.outs, .slice b1 nP d1, .slice b2 nL d2, .slice b3 nO d3] 26)) #[.int .i64 0, .int .i64 0]
    rw [s1] at g2
    have B4 := hiddenC (B3.out.trans (lb2.mono B3.out.size))
    have L4 := hiddenC (L3.out.below lb2)
    generalize (w3.alloc (.cells #[.int .i64 p.mem, .int .i64 p.cnt, .int .i64 p.ins, .int .i64 p.outs, .slice b1 nP d1, .slice b2 nL d2, .slice b3 nO d3] 26)).alloc (.cells #[.int .i64 0, .int .i64 0] 29) = W5 at *
    obtain ⟨pb, hpb⟩ : ∃ q, w3.heap.size = q := ⟨_, rfl⟩
    obtain ⟨fb, hfb⟩ : ∃ q, pb + 1 = q := ⟨_, rfl⟩
    rw [hpb] at g1 g2 ⊢
    rw [hfb] at g2 ⊢
    have H1 := hiddenC g1
    have H2 := hiddenC g2
    clear s1 lb1 lb2 g1 g2 hpb hfb
    clear L3 B3
    have x0 := H1.out.cell (k := 0) rfl
    have x1 := H1.out.cell (k := 1) rfl
    have x2 := H1.out.cell (k := 2) rfl
    have x3 := H1.out.cell (k := 3) rfl
    have x4 := H1.out.cell (k := 4) rfl
    have x5 := H1.out.cell (k := 5) rfl
    have x6 := H1.out.cell (k := 6) rfl
    simp only [List.getElem_toArray, List.getElem_cons_zero, List.getElem_cons_succ] at x0 x1 x2 x3 x4 x5 x6
    have f0 := H2.out.cell (k := 0) rfl
    have f1 := H2.out.cell (k := 1) rfl
    simp only [List.getElem_toArray, List.getElem_cons_zero, List.getElem_cons_succ] at f0 f1
    go_wp2_with (first
      | (go_at_call 9; (with_reducible refine (EN.out _ _ _ _ _ _ _ _ _ L4.out).mono ?_); rintro e w6 ⟨rfl, q2⟩; have B6 := hiddenC (B4.out.trans (q2.mono B4.out.size)); have L6 := hiddenC (L4.out.below q2); have y0 := cellC_later q2 (H1.out.cell (k := 0) rfl); have y1 := cellC_later q2 (H1.out.cell (k := 1) rfl); have y2 := cellC_later q2 (H1.out.cell (k := 2) rfl); have y3 := cellC_later q2 (H1.out.cell (k := 3) rfl); have y4 := cellC_later q2 (H1.out.cell (k := 4) rfl); have y5 := cellC_later q2 (H1.out.cell (k := 5) rfl); have y6 := cellC_later q2 (H1.out.cell (k := 6) rfl); simp only [List.getElem_toArray, List.getElem_cons_zero, List.getElem_cons_succ] at y0 y1 y2 y3 y4 y5 y6; have k0 := cellC_later q2 (H2.out.cell (k := 0) rfl); have k1 := cellC_later q2 (H2.out.cell (k := 1) rfl); simp only [List.getElem_toArray, List.getElem_cons_zero, List.getElem_cons_succ] at k0 k1; clear q2)
      | (go_at_call 10; (with_reducible refine (CK.out _ _ _ _ _ _ _ _ _ L6.out).mono ?_); rintro e w7 ⟨rfl, q2⟩; have B7 := hiddenC (B6.out.trans (q2.mono B6.out.size)); clear q2)
      | (go_at_call 8; (with_reducible refine (AW.out _).mono ?_); rintro e w8 ⟨rfl, q2⟩; have B8 := hiddenC (B7.out.trans (q2.mono B7.out.size)); clear q2))
    rw [← HPE.out]
    exact ⟨rfl, B8.out⟩
end Go.Proofs.Ytdeeaokfljglkab
