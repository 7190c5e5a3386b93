/- Texts of one chain, laid one behind the other. -/
import Derived.Test.YtdeeaokfljglkabPartCodeDone23
import Derived.Test.YtdeeaokfljglkabPartCodeDone4
namespace Go.Proofs.Ytdeeaokfljglkab
open Go.Lib Go.ChangeShapes Go.WideShapes Go.ChangeAt Go.RowKit
theorem cnt_len : (encC cntP).length = 30 := by
  have z1 : zigzag 5 = 10 := by decide
  have z2 : zigzag (-1) = 1 := by decide
  simp [encC, encX, encP, encO, cntP, encN, encL, encZ, magC, z1, z2, uvarint_small]
theorem cnt_ok : PrgOk cntP := prgOk_in (by rw [cnt_step]) cnt_fit
theorem cnt_dec : decC codeS (encC cntP) = .ok cntP := dec_enc cnt_ok (by rw [cnt_step])
theorem cnt_enc : encT cntP = encC cntP := by unfold encT; rw [cnt_step]; rfl
theorem cnt_steps (aP aO y : Option Addr) (W : World) (h : PrgL W cntP aP none aO [(⟨10, [5, -1]⟩, (y, 2))] []) : Calls Try.prog 11 #[prgV cntP aP 1 none 0 aO 5] W fun e w' => e = .returned (.tuple #[.int .i64 11, .int .i64 0]) ∧ Below W.heap.size W w' := by
  have q := steps_any cntP aP 1 none 0 aO 5 _ _ W h cnt_fit
  rw [cnt_step] at q
  exact q
theorem cnt_encodes (aP aO y : Option Addr) (W : World) (h : PrgL W cntP aP none aO [(⟨10, [5, -1]⟩, (y, 2))] []) : Calls Try.prog 9 #[prgV cntP aP 1 none 0 aO 5] W fun e w' => e = .returned (.tuple #[.string (strC (encC cntP)), .int .i64 0]) ∧ Below W.heap.size W w' := by
  have q := encode_any cntP aP 1 none 0 aO 5 _ _ W h cnt_fit
  rw [cnt_step, cnt_enc] at q
  exact q
theorem cnt_decodes (W : World) : Calls Try.prog 7 #[.string (strC (encC cntP))] W fun e w' => ∃ aP cP aL cL aO cO LP LL, e = .returned (.tuple #[.agg #[.int .i64 2, .int .i64 1, .int .i64 0, .int .i64 1, .slice aP 1 cP, .slice aL 0 cL, .slice aO 5 cO], .agg #[.int .i64 0, .int .i64 0]]) ∧ PrgL w' cntP aP aL aO LP LL ∧ Below W.heap.size W w' := by
  refine (decode_any (encC cntP) (by rw [cnt_len]; decide) W).mono fun e w' h => ?_
  unfold DecE at h
  rw [cnt_dec] at h
  obtain ⟨⟨aP, cP, aL, cL, aO, cO, LP, LL, h1, h2⟩, h3⟩ := h
  exact ⟨aP, cP, aL, cL, aO, cO, LP, LL, h1, h2.lies, h3⟩
theorem cnt_same (a1 : Option Addr) (c1 : Nat) (a2 : Option Addr) (c2 : Nat) (a3 : Option Addr) (c3 : Nat) (b1 b3 y : Option Addr) (LP : List (PrtC × (Option Addr × Nat))) (LL : List (LinC × (Option Addr × Nat))) (W : World) (hL : PrgL W cntP a1 a2 a3 LP LL) (hL' : PrgL W cntP b1 none b3 [(⟨10, [5, -1]⟩, (y, 2))] []) :
    Calls Try.prog 15 #[.agg #[.int .i64 2, .int .i64 1, .int .i64 0, .int .i64 1, .slice a1 1 c1, .slice a2 0 c2, .slice a3 5 c3], .agg #[.int .i64 2, .int .i64 1, .int .i64 0, .int .i64 1, .slice b1 1 1, .slice none 0 0, .slice b3 5 5]] W fun e w' => e = .returned (.bool true) ∧ Below W.heap.size W w' :=
  sameProg_any cntP a1 c1 a2 c2 a3 c3 b1 1 none 0 b3 5 LP _ LL [] W hL hL' (by decide) (by decide) (by decide) (fun q hq => by obtain rfl := List.mem_singleton.1 hq; decide) (fun q hq => nomatch hq)
/-- The counting program, as it lies. -/
def CntS (u : World) (z : Value) : Prop := ∃ b1 b3 y, z = .agg #[.int .i64 2, .int .i64 1, .int .i64 0, .int .i64 1, .slice b1 1 1, .slice none 0 0, .slice b3 5 5] ∧ PrgL u cntP b1 none b3 [(⟨10, [5, -1]⟩, (y, 2))] []
theorem CntS.below {u u' : World} {z : Value} (h : CntS u z) (hb : Below u.heap.size u u') : CntS u' z := by
  obtain ⟨b1, b3, y, e1, e2⟩ := h
  exact ⟨b1, b3, y, e1, e2.below hb⟩
set_option maxRecDepth 100000 in
set_option maxHeartbeats 8000000 in
theorem awake20 (w : World) : Calls Try.prog 8 #[] w fun e w' => e = .returned (.bool true) ∧ Below w.heap.size w w' := by
  obtain ⟨PE, hPE⟩ : ∃ Q : Ending → World → Prop, (fun e w' => e = .returned (.bool true) ∧ Below w.heap.size w w') = Q := ⟨_, rfl⟩
  rw [hPE]
  have HPE := hiddenC hPE
  clear hPE
  have CN := hiddenC counting_any
  have ST := hiddenC cnt_steps
  have EN := hiddenC cnt_encodes
  have DE := hiddenC cnt_decodes
  have HS : Hid ((strC (encC cntP)).size = 30) := cnt_len
  obtain ⟨S, hS⟩ : ∃ S, strC (encC cntP) = S := ⟨_, rfl⟩
  rw [hS] at EN DE HS
  clear hS
  go_enter Try.func8, Try.ntmps8
  go_upto_region 2 with (first
    | (go_at_call 14; (with_reducible refine (CN.out _).mono ?_); rintro e w1 ⟨x1, x2, x3, rfl, q1, q2⟩; have L1 := hiddenC q1; have B1 := hiddenC q2; clear q1 q2)
    | (go_at_call 11; (with_reducible refine (ST.out _ _ _ _ L1.out).mono ?_); rintro e w2 ⟨rfl, q2⟩; have B2 := hiddenC (B1.out.trans (q2.mono B1.out.size)); clear q2))
  clear L1 B1
  go_upto_region 3 with (first
    | (go_at_call 14; (with_reducible refine (CN.out _).mono ?_); rintro e w3 ⟨y1, y2, y3, rfl, q1, q2⟩; have L3 := hiddenC q1; have B3 := hiddenC (B2.out.trans (q2.mono B2.out.size)); clear q1 q2)
    | (go_at_call 9; (with_reducible refine (EN.out _ _ _ _ L3.out).mono ?_); rintro e w4 ⟨rfl, q2⟩; have B4 := hiddenC (B3.out.trans (q2.mono B3.out.size)); clear q2))
  clear L3 B3 B2
  go_upto_region 4 with (go_at_call 7; (with_reducible refine (DE.out _).mono ?_); rintro e w5 ⟨a1, c1, a2, c2, a3, c3, LP, LL, rfl, q1, q2⟩; have L5 := hiddenC q1; have B5 := hiddenC (B4.out.trans (q2.mono B4.out.size)); clear q1 q2)
  have s1 : (w5.alloc (.cells #[.int .i64 2, .int .i64 1, .int .i64 0, .int .i64 1, .slice a1 1 c1, .slice a2 0 c2, .slice a3 5 c3] 26)).heap.size = w5.heap.size + 1 := World.size_alloc ..
  have b1 := (Below.refl w5.heap.size w5).alloc (Nat.le_refl _) (.cells #[.int .i64 2, .int .i64 1, .int .i64 0, .int .i64 1, .slice a1 1 c1, .slice a2 0 c2, .slice a3 5 c3] 26)
  have b2 := b1.alloc b1.size (.cells #[.int .i64 0, .int .i64 0] 29)
  have g1 := (blkA_new 26 w5 #[.int .i64 2, .int .i64 1, .int .i64 0, .int .i64 1, .slice a1 1 c1, .slice a2 0 c2, .slice a3 5 c3]).below ((Below.refl _ _).alloc (Nat.le_refl _) (.cells #[.int .i64 0, .int .i64 0] 29))
  have g2 := blkA_new 29 (w5.alloc (.cells #[.int .i64 2, .int .i64 1, .int .i64 0, .int .i64 1, .slice a1 1 c1, .slice a2 0 c2, .slice a3 5 c3] 26)) #[.int .i64 0, .int .i64 0]
  rw [s1] at g2
  have PL := hiddenC (L5.out.below b2)
  have B6 := hiddenC (B5.out.trans (b2.mono B5.out.size))
  generalize (w5.alloc (.cells #[.int .i64 2, .int .i64 1, .int .i64 0, .int .i64 1, .slice a1 1 c1, .slice a2 0 c2, .slice a3 5 c3] 26)).alloc (.cells #[.int .i64 0, .int .i64 0] 29) = W5 at *
  obtain ⟨pb, hpb⟩ : ∃ q, w5.heap.size = q := ⟨_, rfl⟩
  obtain ⟨fb, hfb⟩ : ∃ q, pb + 1 = q := ⟨_, rfl⟩
  rw [hpb] at g1 g2 ⊢
  rw [hfb] at g2 ⊢
  have P0 := hiddenC (g1.cell (k := 0) rfl)
  have P1 := hiddenC (g1.cell (k := 1) rfl)
  have P2 := hiddenC (g1.cell (k := 2) rfl)
  have P3 := hiddenC (g1.cell (k := 3) rfl)
  have P4 := hiddenC (g1.cell (k := 4) rfl)
  have P5 := hiddenC (g1.cell (k := 5) rfl)
  have P6 := hiddenC (g1.cell (k := 6) rfl)
  have F0 := hiddenC (g2.cell (k := 0) rfl)
  have F1 := hiddenC (g2.cell (k := 1) rfl)
  simp only [List.getElem_toArray, List.getElem_cons_zero, List.getElem_cons_succ] at P0 P1 P2 P3 P4 P5 P6 F0 F1
  clear s1 b1 b2 g1 g2 hpb hfb L5 B5 B4 CN ST EN DE
  refine wp_region_gen [] (fun d_ i u z => match i with
      | 0 => z = .int .i64 0
      | 1 => z = .bool true
      | 2 => z = .bool true
      | 3 => z = .int .i64 0
      | 4 => z = .bool true
      | 5 => z = .bool true
      | 6 => z = .bool true
      | 7 => z = .agg #[.int .i64 0, .int .i64 0]
      | 8 => z = .agg #[.int .i64 0, .int .i64 0]
      | 9 => z = .bool true
      | 10 => z = .bool true
      | 11 => z = .bool true
      | 12 => z = .int .i64 11
      | 13 => z = .bool true
      | 14 => z = .bool true
      | 15 => z = .bool true
      | 16 => z = .string S
      | 17 => z = .int .i64 30
      | 18 => z = .bool true
      | 19 => z = .bool true
      | 20 => z = .bool true
      | 21 => z = .agg #[.int .i64 2, .int .i64 1, .int .i64 0, .int .i64 1, .slice a1 1 c1, .slice a2 0 c2, .slice a3 5 c3]
      | 22 => CntS u z
      | 23 => z = .bool true
      | 24 => z = .bool true
      | 25 => z = .bool true
      | _ => True) (fun _ u => Below W5.heap.size W5 u) (by kernel_rfl) (by kernel_rfl) (by kernel_rfl) ?_ ?_ ?_ ?_ ?_ ?_ (by kernel_rfl)
  · intro d_ i w_ v_ w' h hb_
    match i, h with
    | 0, h => exact h
    | 1, h => exact h
    | 2, h => exact h
    | 3, h => exact h
    | 4, h => exact h
    | 5, h => exact h
    | 6, h => exact h
    | 7, h => exact h
    | 8, h => exact h
    | 9, h => exact h
    | 10, h => exact h
    | 11, h => exact h
    | 12, h => exact h
    | 13, h => exact h
    | 14, h => exact h
    | 15, h => exact h
    | 16, h => exact h
    | 17, h => exact h
    | 18, h => exact h
    | 19, h => exact h
    | 20, h => exact h
    | 21, h => exact h
    | 22, h => exact CntS.below h hb_
    | 23, h => exact h
    | 24, h => exact h
    | 25, h => exact h
    | _ + 26, _ => trivial
  · intro d_ u u' h hb_
    exact h.trans (hb_.mono h.size)
  · exact Below.refl _ _
  · intro d_ i o ρ w' hm ho hf hg hC hcs hfs hfr hdep
    have f0 := cellC_later hC F0.out
    have f1 := cellC_later hC F1.out
    have p0 := cellC_later hC P0.out
    have p1 := cellC_later hC P1.out
    have p2 := cellC_later hC P2.out
    have p3 := cellC_later hC P3.out
    have p4 := cellC_later hC P4.out
    have p5 := cellC_later hC P5.out
    have p6 := cellC_later hC P6.out
    match i, hm, ho, hf, hg, hfr, hdep with
    | 0, _, ho, hf, hg, hfr, hdep =>
      simp only [gTA, gCZ, gSI] at ho
      subst ho
      refine ⟨fun _ => ?_, fun hw => absurd (show true = false from hw) (by decide)⟩
      have ts : ρ (.tmp 2) = .int .i64 0 := hfr 2 (by kernel_rfl)
      simp [go_sem, ts]
      exact ⟨Below.refl _ _, rfl⟩
    | 1, _, ho, hf, hg, hfr, hdep =>
      simp only [gTA, gCZ, gCS, gSI] at ho
      subst ho
      refine ⟨fun _ => ?_, fun hw => absurd (show true = false from hw) (by decide)⟩
      have d0 : ρ (.tmp 22) = .int .i64 0 := hdep 0 22 (by kernel_rfl) (by kernel_rfl)
      simp [go_sem, d0, hcs]
      exact ⟨Below.refl _ _, rfl⟩
    | 2, _, ho, hf, hg, hfr, hdep =>
      simp only [gTA, gCZ, gCS, gSI] at ho
      subst ho
      refine ⟨fun _ => ?_, fun hw => absurd (show true = false from hw) (by decide)⟩
      have d0 : ρ (.tmp 23) = .bool true := hdep 1 23 (by kernel_rfl) (by kernel_rfl)
      simp [go_sem, d0]
      exact ⟨Below.refl _ _, rfl⟩
    | 3, _, ho, hf, hg, hfr, hdep =>
      simp only [gTA, gCZ, gCS, gSI] at ho
      subst ho
      have gd : ρ (.tmp 24) = .bool true := hdep 2 24 (by kernel_rfl) (by kernel_rfl)
      refine ⟨fun _ => ?_, fun hw => absurd (show (match ρ (.tmp 24) with | .bool c => c == true | _ => false) = false from hw) (by rw [gd]; decide)⟩
      clear gd
      have ts : ρ (.tmp 4) = .int .i64 0 := hfr 4 (by kernel_rfl)
      simp [go_sem, ts]
      exact ⟨Below.refl _ _, rfl⟩
    | 4, _, ho, hf, hg, hfr, hdep =>
      simp only [gTA, gCZ, gCS, gSI] at ho
      subst ho
      have gd : ρ (.tmp 24) = .bool true := hdep 2 24 (by kernel_rfl) (by kernel_rfl)
      refine ⟨fun _ => ?_, fun hw => absurd (show (match ρ (.tmp 24) with | .bool c => c == true | _ => false) = false from hw) (by rw [gd]; decide)⟩
      clear gd
      have d0 : ρ (.tmp 25) = .int .i64 0 := hdep 3 25 (by kernel_rfl) (by kernel_rfl)
      simp [go_sem, d0, hcs]
      exact ⟨Below.refl _ _, rfl⟩
    | 5, _, ho, hf, hg, hfr, hdep =>
      simp only [gTA, gCZ, gCS, gSI] at ho
      subst ho
      refine ⟨fun _ => ?_, fun hw => absurd (show true = false from hw) (by decide)⟩
      have d0 : ρ (.tmp 24) = .bool true := hdep 2 24 (by kernel_rfl) (by kernel_rfl)
      have d1 : ρ (.tmp 26) = .bool true := hdep 4 26 (by kernel_rfl) (by kernel_rfl)
      simp [go_sem, d0, d1]
      exact ⟨Below.refl _ _, rfl⟩
    | 6, _, ho, hf, hg, hfr, hdep =>
      simp only [gTA, gCZ, gCS, gSI] at ho
      subst ho
      refine ⟨fun _ => ?_, fun hw => absurd (show true = false from hw) (by decide)⟩
      have d0 : ρ (.tmp 27) = .bool true := hdep 5 27 (by kernel_rfl) (by kernel_rfl)
      simp [go_sem, d0]
      exact ⟨Below.refl _ _, rfl⟩
    | 7, _, ho, hf, hg, hfr, hdep =>
      simp only [gTA, gCZ, gCS, gSI] at ho
      subst ho
      have gd : ρ (.tmp 28) = .bool true := hdep 6 28 (by kernel_rfl) (by kernel_rfl)
      refine ⟨fun _ => ?_, fun hw => absurd (show (match ρ (.tmp 28) with | .bool c => c == true | _ => false) = false from hw) (by rw [gd]; decide)⟩
      clear gd
      have ts : ρ (.tmp 6) = .pointer (some ⟨fb, 0, none⟩) := hfr 6 (by kernel_rfl)
      simp [go_sem, ts, f0, f1]
      exact ⟨Below.refl _ _, rfl⟩
    | 8, _, ho, hf, hg, hfr, hdep =>
      simp only [gTA, gCZ, gCS, gSI] at ho
      subst ho
      have gd : ρ (.tmp 28) = .bool true := hdep 6 28 (by kernel_rfl) (by kernel_rfl)
      refine ⟨fun _ => ?_, fun hw => absurd (show (match ρ (.tmp 28) with | .bool c => c == true | _ => false) = false from hw) (by rw [gd]; decide)⟩
      clear gd
      simp [go_sem]
      exact ⟨Below.refl _ _, rfl⟩
    | 9, _, ho, hf, hg, hfr, hdep =>
      simp only [gTA, gCZ, gCS, gSI] at ho
      subst ho
      have gd : ρ (.tmp 28) = .bool true := hdep 6 28 (by kernel_rfl) (by kernel_rfl)
      refine ⟨fun _ => ?_, fun hw => absurd (show (match ρ (.tmp 28) with | .bool c => c == true | _ => false) = false from hw) (by rw [gd]; decide)⟩
      clear gd
      have d0 : ρ (.tmp 29) = .agg #[.int .i64 0, .int .i64 0] := hdep 7 29 (by kernel_rfl) (by kernel_rfl)
      have d1 : ρ (.tmp 30) = .agg #[.int .i64 0, .int .i64 0] := hdep 8 30 (by kernel_rfl) (by kernel_rfl)
      simp [go_sem, d0, d1]
      exact ⟨Below.refl _ _, rfl⟩
    | 10, _, ho, hf, hg, hfr, hdep =>
      simp only [gTA, gCZ, gCS, gSI] at ho
      subst ho
      refine ⟨fun _ => ?_, fun hw => absurd (show true = false from hw) (by decide)⟩
      have d0 : ρ (.tmp 28) = .bool true := hdep 6 28 (by kernel_rfl) (by kernel_rfl)
      have d1 : ρ (.tmp 31) = .bool true := hdep 9 31 (by kernel_rfl) (by kernel_rfl)
      simp [go_sem, d0, d1]
      exact ⟨Below.refl _ _, rfl⟩
    | 11, _, ho, hf, hg, hfr, hdep =>
      simp only [gTA, gCZ, gCS, gSI] at ho
      subst ho
      refine ⟨fun _ => ?_, fun hw => absurd (show true = false from hw) (by decide)⟩
      have d0 : ρ (.tmp 32) = .bool true := hdep 10 32 (by kernel_rfl) (by kernel_rfl)
      simp [go_sem, d0]
      exact ⟨Below.refl _ _, rfl⟩
    | 12, _, ho, hf, hg, hfr, hdep =>
      simp only [gTA, gCZ, gCS, gSI] at ho
      subst ho
      have gd : ρ (.tmp 33) = .bool true := hdep 11 33 (by kernel_rfl) (by kernel_rfl)
      refine ⟨fun _ => ?_, fun hw => absurd (show (match ρ (.tmp 33) with | .bool c => c == true | _ => false) = false from hw) (by rw [gd]; decide)⟩
      clear gd
      have ts : ρ (.tmp 1) = .int .i64 11 := hfr 1 (by kernel_rfl)
      simp [go_sem, ts]
      exact ⟨Below.refl _ _, rfl⟩
    | 13, _, ho, hf, hg, hfr, hdep =>
      simp only [gTA, gCZ, gCS, gSI] at ho
      subst ho
      have gd : ρ (.tmp 33) = .bool true := hdep 11 33 (by kernel_rfl) (by kernel_rfl)
      refine ⟨fun _ => ?_, fun hw => absurd (show (match ρ (.tmp 33) with | .bool c => c == true | _ => false) = false from hw) (by rw [gd]; decide)⟩
      clear gd
      have d0 : ρ (.tmp 34) = .int .i64 11 := hdep 12 34 (by kernel_rfl) (by kernel_rfl)
      simp [go_sem, d0, hcs]
      exact ⟨Below.refl _ _, rfl⟩
    | 14, _, ho, hf, hg, hfr, hdep =>
      simp only [gTA, gCZ, gCS, gSI] at ho
      subst ho
      refine ⟨fun _ => ?_, fun hw => absurd (show true = false from hw) (by decide)⟩
      have d0 : ρ (.tmp 33) = .bool true := hdep 11 33 (by kernel_rfl) (by kernel_rfl)
      have d1 : ρ (.tmp 35) = .bool true := hdep 13 35 (by kernel_rfl) (by kernel_rfl)
      simp [go_sem, d0, d1]
      exact ⟨Below.refl _ _, rfl⟩
    | 15, _, ho, hf, hg, hfr, hdep =>
      simp only [gTA, gCZ, gCS, gSI] at ho
      subst ho
      refine ⟨fun _ => ?_, fun hw => absurd (show true = false from hw) (by decide)⟩
      have d0 : ρ (.tmp 36) = .bool true := hdep 14 36 (by kernel_rfl) (by kernel_rfl)
      simp [go_sem, d0]
      exact ⟨Below.refl _ _, rfl⟩
    | 16, _, ho, hf, hg, hfr, hdep =>
      simp only [gTA, gCZ, gCS, gSI] at ho
      subst ho
      have gd : ρ (.tmp 37) = .bool true := hdep 15 37 (by kernel_rfl) (by kernel_rfl)
      refine ⟨fun _ => ?_, fun hw => absurd (show (match ρ (.tmp 37) with | .bool c => c == true | _ => false) = false from hw) (by rw [gd]; decide)⟩
      clear gd
      have ts : ρ (.tmp 3) = .string S := hfr 3 (by kernel_rfl)
      simp [go_sem, ts]
      exact ⟨Below.refl _ _, rfl⟩
    | 17, _, ho, hf, hg, hfr, hdep =>
      simp only [gTA, gCZ, gCS, gSI] at ho
      subst ho
      have gd : ρ (.tmp 37) = .bool true := hdep 15 37 (by kernel_rfl) (by kernel_rfl)
      refine ⟨fun _ => ?_, fun hw => absurd (show (match ρ (.tmp 37) with | .bool c => c == true | _ => false) = false from hw) (by rw [gd]; decide)⟩
      clear gd
      have d0 : ρ (.tmp 38) = .string S := hdep 16 38 (by kernel_rfl) (by kernel_rfl)
      simp [go_sem, d0, HS.out]
      exact ⟨Below.refl _ _, rfl⟩
    | 18, _, ho, hf, hg, hfr, hdep =>
      simp only [gTA, gCZ, gCS, gSI] at ho
      subst ho
      have gd : ρ (.tmp 37) = .bool true := hdep 15 37 (by kernel_rfl) (by kernel_rfl)
      refine ⟨fun _ => ?_, fun hw => absurd (show (match ρ (.tmp 37) with | .bool c => c == true | _ => false) = false from hw) (by rw [gd]; decide)⟩
      clear gd
      have d0 : ρ (.tmp 39) = .int .i64 30 := hdep 17 39 (by kernel_rfl) (by kernel_rfl)
      simp [go_sem, d0, hcs]
      exact ⟨Below.refl _ _, rfl⟩
    | 19, _, ho, hf, hg, hfr, hdep =>
      simp only [gTA, gCZ, gCS, gSI] at ho
      subst ho
      refine ⟨fun _ => ?_, fun hw => absurd (show true = false from hw) (by decide)⟩
      have d0 : ρ (.tmp 37) = .bool true := hdep 15 37 (by kernel_rfl) (by kernel_rfl)
      have d1 : ρ (.tmp 40) = .bool true := hdep 18 40 (by kernel_rfl) (by kernel_rfl)
      simp [go_sem, d0, d1]
      exact ⟨Below.refl _ _, rfl⟩
    | 20, _, ho, hf, hg, hfr, hdep =>
      simp only [gTA, gCZ, gCS, gSI] at ho
      subst ho
      refine ⟨fun _ => ?_, fun hw => absurd (show true = false from hw) (by decide)⟩
      have d0 : ρ (.tmp 41) = .bool true := hdep 19 41 (by kernel_rfl) (by kernel_rfl)
      simp [go_sem, d0]
      exact ⟨Below.refl _ _, rfl⟩
    | 21, _, ho, hf, hg, hfr, hdep =>
      simp only [gTA, gCZ, gCS, gSI] at ho
      subst ho
      have gd : ρ (.tmp 42) = .bool true := hdep 20 42 (by kernel_rfl) (by kernel_rfl)
      refine ⟨fun _ => ?_, fun hw => absurd (show (match ρ (.tmp 42) with | .bool c => c == true | _ => false) = false from hw) (by rw [gd]; decide)⟩
      clear gd
      have ts : ρ (.tmp 5) = .pointer (some ⟨pb, 0, none⟩) := hfr 5 (by kernel_rfl)
      simp [go_sem, ts, p0, p1, p2, p3, p4, p5, p6]
      exact ⟨Below.refl _ _, rfl⟩
    | 22, _, ho, hf, hg, hfr, hdep =>
      simp only [gTA, gCZ, gCS, gSI] at ho
      subst ho
      have gd : ρ (.tmp 42) = .bool true := hdep 20 42 (by kernel_rfl) (by kernel_rfl)
      refine ⟨fun _ => ?_, fun hw => absurd (show (match ρ (.tmp 42) with | .bool c => c == true | _ => false) = false from hw) (by rw [gd]; decide)⟩
      clear gd
      simp [go_sem, hfs]
      refine ⟨rfl, ?_⟩
      exact (counting_any w').mono fun e w'' hh => by obtain ⟨b1, b3, y, e1, e2, e3⟩ := hh; exact ⟨_, e1, e3, b1, b3, y, rfl, e2⟩
    | 23, _, ho, hf, hg, hfr, hdep =>
      simp only [gTA, gCZ, gCS, gSI] at ho
      subst ho
      have gd : ρ (.tmp 42) = .bool true := hdep 20 42 (by kernel_rfl) (by kernel_rfl)
      refine ⟨fun _ => ?_, fun hw => absurd (show (match ρ (.tmp 42) with | .bool c => c == true | _ => false) = false from hw) (by rw [gd]; decide)⟩
      clear gd
      have cs : CntS w' (ρ (.tmp 44)) := hdep 22 44 (by kernel_rfl) (by kernel_rfl)
      obtain ⟨b1, b3, y, ec, lc⟩ := cs
      have d0 : ρ (.tmp 43) = .agg #[.int .i64 2, .int .i64 1, .int .i64 0, .int .i64 1, .slice a1 1 c1, .slice a2 0 c2, .slice a3 5 c3] := hdep 21 43 (by kernel_rfl) (by kernel_rfl)
      simp [go_sem, hfs, d0]
      refine ⟨rfl, ?_⟩
      rw [ec]
      exact (cnt_same _ _ _ _ _ _ _ _ _ _ _ w' (PL.out.below hC) lc).mono fun e w'' hh => ⟨_, hh.1, hh.2, rfl⟩
    | 24, _, ho, hf, hg, hfr, hdep =>
      simp only [gTA, gCZ, gCS, gSI] at ho
      subst ho
      refine ⟨fun _ => ?_, fun hw => absurd (show true = false from hw) (by decide)⟩
      have d0 : ρ (.tmp 42) = .bool true := hdep 20 42 (by kernel_rfl) (by kernel_rfl)
      have d1 : ρ (.tmp 45) = .bool true := hdep 23 45 (by kernel_rfl) (by kernel_rfl)
      simp [go_sem, d0, d1]
      exact ⟨Below.refl _ _, rfl⟩
    | 25, _, ho, hf, hg, hfr, hdep =>
      simp only [gTA, gCZ, gCS, gSI] at ho
      subst ho
      refine ⟨fun _ => ?_, fun hw => absurd (show true = false from hw) (by decide)⟩
      have d0 : ρ (.tmp 46) = .bool true := hdep 24 46 (by kernel_rfl) (by kernel_rfl)
      simp [go_sem, d0]
      exact ⟨Below.refl _ _, rfl⟩
    | n + 26, _, ho, _, _, _, _ => simp at ho
  · intro d_ i o ρ w' hm ho h0 hf hg hC hcs hfs hfr hdep
    exact absurd hm (by simp)
  · intro V w9 hC9 hS
    have cs : CntS w9 (V 22) := hS 22 (by decide) (by intro h; cases h)
    obtain ⟨b1, b3, y, ec, -⟩ := cs
    have e0 : V 0 = .int .i64 0 := hS 0 (by decide) (by intro h; cases h)
    have e1 : V 1 = .bool true := hS 1 (by decide) (by intro h; cases h)
    have e2 : V 2 = .bool true := hS 2 (by decide) (by intro h; cases h)
    have e3 : V 3 = .int .i64 0 := hS 3 (by decide) (by intro h; cases h)
    have e4 : V 4 = .bool true := hS 4 (by decide) (by intro h; cases h)
    have e5 : V 5 = .bool true := hS 5 (by decide) (by intro h; cases h)
    have e6 : V 6 = .bool true := hS 6 (by decide) (by intro h; cases h)
    have e7 : V 7 = .agg #[.int .i64 0, .int .i64 0] := hS 7 (by decide) (by intro h; cases h)
    have e8 : V 8 = .agg #[.int .i64 0, .int .i64 0] := hS 8 (by decide) (by intro h; cases h)
    have e9 : V 9 = .bool true := hS 9 (by decide) (by intro h; cases h)
    have e10 : V 10 = .bool true := hS 10 (by decide) (by intro h; cases h)
    have e11 : V 11 = .bool true := hS 11 (by decide) (by intro h; cases h)
    have e12 : V 12 = .int .i64 11 := hS 12 (by decide) (by intro h; cases h)
    have e13 : V 13 = .bool true := hS 13 (by decide) (by intro h; cases h)
    have e14 : V 14 = .bool true := hS 14 (by decide) (by intro h; cases h)
    have e15 : V 15 = .bool true := hS 15 (by decide) (by intro h; cases h)
    have e16 : V 16 = .string S := hS 16 (by decide) (by intro h; cases h)
    have e17 : V 17 = .int .i64 30 := hS 17 (by decide) (by intro h; cases h)
    have e18 : V 18 = .bool true := hS 18 (by decide) (by intro h; cases h)
    have e19 : V 19 = .bool true := hS 19 (by decide) (by intro h; cases h)
    have e20 : V 20 = .bool true := hS 20 (by decide) (by intro h; cases h)
    have e21 : V 21 = .agg #[.int .i64 2, .int .i64 1, .int .i64 0, .int .i64 1, .slice a1 1 c1, .slice a2 0 c2, .slice a3 5 c3] := hS 21 (by decide) (by intro h; cases h)
    have e23 : V 23 = .bool true := hS 23 (by decide) (by intro h; cases h)
    have e24 : V 24 = .bool true := hS 24 (by decide) (by intro h; cases h)
    have e25 : V 25 = .bool true := hS 25 (by decide) (by intro h; cases h)
    simp only [puts, ec, e0, e1, e2, e3, e4, e5, e6, e7, e8, e9, e10, e11, e12, e13, e14, e15, e16, e17, e18, e19, e20, e21, e23, e24, e25]
    simp only [Act.put, List.setIfInBounds_toArray, List.set_cons_zero, List.set_cons_succ]
    clear hS ec e0 e1 e2 e3 e4 e5 e6 e7 e8 e9 e10 e11 e12 e13 e14 e15 e16 e17 e18 e19 e20 e21 e23 e24 e25
    have B9 := hiddenC (B6.out.trans (hC9.mono B6.out.size))
    clear hC9
    go_wp2
    rw [← HPE.out]
    exact ⟨rfl, B9.out⟩
end Go.Proofs.Ytdeeaokfljglkab
