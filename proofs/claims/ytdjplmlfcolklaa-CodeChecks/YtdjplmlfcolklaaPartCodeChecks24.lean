/- Texts of one chain, laid one behind the other. -/
import Derived.Test.YtdjplmlfcolklaaPartCodeChecks23
import Derived.Test.YtdjplmlfcolklaaPartCodeChecks4
import Derived.Test.YtdjplmlfcolklaaPartCodeChecks10
import Derived.Test.YtdjplmlfcolklaaPartCodeChecks1
namespace Go.Proofs.Ytdjplmlfcolklaa
open Go.Lib Go.ChangeShapes Go.WideShapes Go.ChangeAt Go.RowKit
theorem cnt_len : (encC cntP).length = 30 := by
  have z1 : zigzag 5 = 10 := by decide
  have z2 : zigzag (-1) = 1 := by decide
  simp [encC, encX, encP, encO, cntP, encN, encL, encZ, magC, z1, z2, uvarint_small]
theorem cnt_ok : PrgOk cntP := prgOk_in (by rw [cnt_step]) cnt_fit
theorem cnt_dec : decC codeS (encC cntP) = .ok cntP := dec_enc cnt_ok (by rw [cnt_step])
theorem cnt_enc : encT cntP = encC cntP := by unfold encT; rw [cnt_step]; rfl
theorem cnt_steps (aP aO y : Option Addr) (W : World) (h : PrgL W cntP aP none aO [(⟨10, [5, -1]⟩, (y, 2))] []) : Calls Try.prog 13 #[prgV cntP aP 1 none 0 aO 5] W fun e w' => e = .returned (.tuple #[.int .i64 11, .int .i64 0]) ∧ Below W.heap.size W w' := by
  have q := steps_any cntP aP 1 none 0 aO 5 _ _ W h cnt_fit
  rw [cnt_step] at q
  exact q
theorem cnt_encodes (aP aO y : Option Addr) (W : World) (h : PrgL W cntP aP none aO [(⟨10, [5, -1]⟩, (y, 2))] []) : Calls Try.prog 15 #[prgV cntP aP 1 none 0 aO 5] W fun e w' => e = .returned (.tuple #[.string (strC (encC cntP)), .int .i64 0]) ∧ Below W.heap.size W w' := by
  have q := encode_any cntP aP 1 none 0 aO 5 _ _ W h cnt_fit
  rw [cnt_step, cnt_enc] at q
  exact q
theorem cnt_decodes (W : World) : Calls Try.prog 17 #[.string (strC (encC cntP))] W fun e w' => ∃ aP cP aL cL aO cO LP LL, e = .returned (.tuple #[.agg #[.int .i64 2, .int .i64 1, .int .i64 0, .int .i64 1, .slice aP 1 cP, .slice aL 0 cL, .slice aO 5 cO], .agg #[.int .i64 0, .int .i64 0]]) ∧ PrgL w' cntP aP aL aO LP LL ∧ Below W.heap.size W w' := by
  refine (decode_any (encC cntP) (by rw [cnt_len]; decide) W).mono fun e w' h => ?_
  unfold DecE at h
  rw [cnt_dec] at h
  obtain ⟨⟨aP, cP, aL, cL, aO, cO, LP, LL, h1, h2⟩, h3⟩ := h
  exact ⟨aP, cP, aL, cL, aO, cO, LP, LL, h1, h2.lies, h3⟩
theorem cnt_same (a1 : Option Addr) (c1 : Nat) (a2 : Option Addr) (c2 : Nat) (a3 : Option Addr) (c3 : Nat) (b1 b3 y : Option Addr) (LP : List (PrtC × (Option Addr × Nat))) (LL : List (LinC × (Option Addr × Nat))) (W : World) (hL : PrgL W cntP a1 a2 a3 LP LL) (hL' : PrgL W cntP b1 none b3 [(⟨10, [5, -1]⟩, (y, 2))] []) :
    Calls Try.prog 10 #[.agg #[.int .i64 2, .int .i64 1, .int .i64 0, .int .i64 1, .slice a1 1 c1, .slice a2 0 c2, .slice a3 5 c3], .agg #[.int .i64 2, .int .i64 1, .int .i64 0, .int .i64 1, .slice b1 1 1, .slice none 0 0, .slice b3 5 5]] W fun e w' => e = .returned (.bool true) ∧ Below W.heap.size W w' :=
  sameProg_any cntP a1 c1 a2 c2 a3 c3 b1 1 none 0 b3 5 LP _ LL [] W hL hL' (by decide) (by decide) (by decide) (fun q hq => by obtain rfl := List.mem_singleton.1 hq; decide) (fun q hq => nomatch hq)
/-- The counting program, as it lies. -/
def CntS (u : World) (z : Value) : Prop := ∃ b1 b3 y, z = .agg #[.int .i64 2, .int .i64 1, .int .i64 0, .int .i64 1, .slice b1 1 1, .slice none 0 0, .slice b3 5 5] ∧ PrgL u cntP b1 none b3 [(⟨10, [5, -1]⟩, (y, 2))] []
theorem CntS.below {u u' : World} {z : Value} (h : CntS u z) (hb : Below u.heap.size u u') : CntS u' z := by
  obtain ⟨b1, b3, y, e1, e2⟩ := h
  exact ⟨b1, b3, y, e1, e2.below hb⟩
set_option maxRecDepth 100000 in
set_option maxHeartbeats 8000000 in
theorem awake20 (w : World) : Calls Try.prog 11 #[] w fun e w' => e = .returned (.bool true) ∧ Below w.heap.size w w' := by
  obtain ⟨PE, hPE⟩ : ∃ Q : Ending → World → Prop, (fun e w' => e = .returned (.bool true) ∧ Below w.heap.size w w') = Q := ⟨_, rfl⟩
  rw [hPE]
  have HPE := hiddenC hPE
  clear hPE
  have CN := hiddenC counting_any
  have ST := hiddenC cnt_steps
  have EN := hiddenC cnt_encodes
  have DE := hiddenC cnt_decodes
  have HS : Hid ((strC (encC cntP)).size = 30) := cnt_len
  obtain ⟨S, hS⟩ : ∃ S, strC (encC cntP) = S := ⟨_, rfl⟩
  rw [hS] at EN DE HS
  clear hS
  go_enter Try.func11, Try.ntmps11
  go_upto_region 2 with (first
    | (go_at_call 26; (with_reducible refine (CN.out _).mono ?_); rintro e w1 ⟨x1, x2, x3, rfl, q1, q2⟩; have L1 := hiddenC q1; have B1 := hiddenC q2; clear q1 q2)
    | (go_at_call 13; (with_reducible refine (ST.out _ _ _ _ L1.out).mono ?_); rintro e w2 ⟨rfl, q2⟩; have B2 := hiddenC (B1.out.trans (q2.mono B1.out.size)); clear q2))
  clear L1 B1
  go_upto_region 3 with (first
    | (go_at_call 26; (with_reducible refine (CN.out _).mono ?_); rintro e w3 ⟨y1, y2, y3, rfl, q1, q2⟩; have L3 := hiddenC q1; have B3 := hiddenC (B2.out.trans (q2.mono B2.out.size)); clear q1 q2)
    | (go_at_call 15; (with_reducible refine (EN.out _ _ _ _ L3.out).mono ?_); rintro e w4 ⟨rfl, q2⟩; have B4 := hiddenC (B3.out.trans (q2.mono B3.out.size)); clear q2))
  clear L3 B3 B2
  go_upto_region 4 with (go_at_call 17; (with_reducible refine (DE.out _).mono ?_); rintro e w5 ⟨a1, c1, a2, c2, a3, c3, LP, LL, rfl, q1, q2⟩; have L5 := hiddenC q1; have B5 := hiddenC (B4.out.trans (q2.mono B4.out.size)); clear q1 q2)
  have s1 : (w5.alloc (.cells #[.int .i64 2, .int .i64 1, .int .i64 0, .int .i64 1, .slice a1 1 c1, .slice a2 0 c2, .slice a3 5 c3] 26)).heap.size = w5.heap.size + 1 := World.size_alloc ..
  have b1 := (Below.refl w5.heap.size w5).alloc (Nat.le_refl _) (.cells #[.int .i64 2, .int .i64 1, .int .i64 0, .int .i64 1, .slice a1 1 c1, .slice a2 0 c2, .slice a3 5 c3] 26)
  have b2 := b1.alloc b1.size (.cells #[.int .i64 0, .int .i64 0] 38)
  have g1 := (blkA_new 26 w5 #[.int .i64 2, .int .i64 1, .int .i64 0, .int .i64 1, .slice a1 1 c1, .slice a2 0 c2, .slice a3 5 c3]).below ((Below.refl _ _).alloc (Nat.le_refl _) (.cells #[.int .i64 0, .int .i64 0] 38))
  have g2 := blkA_new 38 (w5.alloc (.cells #[.int .i64 2, .int .i64 1, .int .i64 0, .int .i64 1, .slice a1 1 c1, .slice a2 0 c2, .slice a3 5 c3] 26)) #[.int .i64 0, .int .i64 0]
  rw [s1] at g2
  have PL := hiddenC (L5.out.below b2)
  have B6 := hiddenC (B5.out.trans (b2.mono B5.out.size))
  generalize (w5.alloc (.cells #[.int .i64 2, .int .i64 1, .int .i64 0, .int .i64 1, .slice a1 1 c1, .slice a2 0 c2, .slice a3 5 c3] 26)).alloc (.cells #[.int .i64 0, .int .i64 0] 38) = W5 at *
  obtain ⟨pb, hpb⟩ : ∃ q, w5.heap.size = q := ⟨_, rfl⟩
  obtain ⟨fb, hfb⟩ : ∃ q, pb + 1 = q := ⟨_, rfl⟩
  rw [hpb] at g1 g2 ⊢
  rw [hfb] at g2 ⊢
  have P0 := hiddenC (g1.cell (k := 0) rfl)
  have P1 := hiddenC (g1.cell (k := 1) rfl)
  have P2 := hiddenC (g1.cell (k := 2) rfl)
  have P3 := hiddenC (g1.cell (k := 3) rfl)
  have P4 := hiddenC (g1.cell (k := 4) rfl)
  have P5 := hiddenC (g1.cell (k := 5) rfl)
  have P6 := hiddenC (g1.cell (k := 6) rfl)
  have F0 := hiddenC (g2.cell (k := 0) rfl)
  have F1 := hiddenC (g2.cell (k := 1) rfl)
  simp only [List.getElem_toArray, List.getElem_cons_zero, List.getElem_cons_succ] at P0 P1 P2 P3 P4 P5 P6 F0 F1
  clear s1 b1 b2 g1 g2 hpb hfb L5 B5 B4 CN ST EN DE
  refine wp_region_gen [] (fun d_ i u z => match i with
      | 0 => z = .int .i64 0
      | 1 => z = .bool true
      | 2 => z = .bool true
      | 3 => z = .int .i64 0
      | 4 => z = .bool true
      | 5 => z = .bool true
      | 6 => z = .bool true
      | 7 => z = .agg #[.int .i64 0, .int .i64 0]
      | 8 => z = .agg #[.int .i64 0, .int .i64 0]
      | 9 => z = .bool true
      | 10 => z = .bool true
      | 11 => z = .bool true
      | 12 => z = .int .i64 11
      | 13 => z = .bool true
      | 14 => z = .bool true
      | 15 => z = .bool true
      | 16 => z = .string S
      | 17 => z = .int .i64 30
      | 18 => z = .bool true
      | 19 => z = .bool true
      | 20 => z = .bool true
      | 21 => z = .agg #[.int .i64 2, .int .i64 1, .int .i64 0, .int .i64 1, .slice a1 1 c1, .slice a2 0 c2, .slice a3 5 c3]
      | 22 => CntS u z
      | 23 => z = .bool true
      | 24 => z = .bool true
      | 25 => z = .bool true
      | _ => True) (fun _ u => Below W5.heap.size W5 u) (by kernel_rfl) (by kernel_rfl) (by kernel_rfl) ?_ ?_ ?_ ?_ ?_ ?_ (by kernel_rfl)
  · intro d_ i w_ v_ w' h hb_
    match i, h with
    | 0, h => exact h
    | 1, h => exact h
    | 2, h => exact h
    | 3, h => exact h
    | 4, h => exact h
    | 5, h => exact h
    | 6, h => exact h
    | 7, h => exact h
    | 8, h => exact h
    | 9, h => exact h
    | 10, h => exact h
    | 11, h => exact h
    | 12, h => exact h
    | 13, h => exact h
    | 14, h => exact h
    | 15, h => exact h
    | 16, h => exact h
    | 17, h => exact h
    | 18, h => exact h
    | 19, h => exact h
    | 20, h => exact h
    | 21, h => exact h
    | 22, h => exact CntS.below h hb_
    | 23, h => exact h
    | 24, h => exact h
    | 25, h => exact h
    | _ + 26, _ => trivial
  · intro d_ u u' h hb_
    exact h.trans (hb_.mono h.size)
  · exact Below.refl _ _
  · intro d_ i o ρ w' hm ho hf hg hC hcs hfs hfr hdep
    have f0 := cellC_later hC F0.out
    have f1 := cellC_later hC F1.out
    have p0 := cellC_later hC P0.out
    have p1 := cellC_later hC P1.out
    have p2 := cellC_later hC P2.out
    have p3 := cellC_later hC P3.out
    have p4 := cellC_later hC P4.out
    have p5 := cellC_later hC P5.out
    have p6 := cellC_later hC P6.out
    match i, hm, ho, hf, hg, hfr, hdep with
    | 0, _, ho, hf, hg, hfr, hdep =>
      simp only [gTA, gCZ, gSI] at ho
      subst ho
      refine ⟨fun _ => ?_, fun hw => absurd (show true = false from hw) (by decide)⟩
      have ts : ρ (.tmp 2) = .int .i64 0 := hfr 2 (by kernel_rfl)
      simp [go_sem, ts]
      exact ⟨Below.refl _ _, rfl⟩
    | 1, _, ho, hf, hg, hfr, hdep =>
      simp only [gTA, gCZ, gCS, gSI] at ho
      subst ho
      refine ⟨fun _ => ?_, fun hw => absurd (show true = false from hw) (by decide)⟩
      have d0 : ρ (.tmp 22) = .int .i64 0 := hdep 0 22 (by kernel_rfl) (by kernel_rfl)
      simp [go_sem, d0, hcs]
      exact ⟨Below.refl _ _, rfl⟩
    | 2, _, ho, hf, hg, hfr, hdep =>
      simp only [gTA, gCZ, gCS, gSI] at ho
      subst ho
      refine ⟨fun _ => ?_, fun hw => absurd (show true = false from hw) (by decide)⟩
      have d0 : ρ (.tmp 23) = .bool true := hdep 1 23 (by kernel_rfl) (by kernel_rfl)
      simp [go_sem, d0]
      exact ⟨Below.refl _ _, rfl⟩
    | 3, _, ho, hf, hg, hfr, hdep =>
      simp only [gTA, gCZ, gCS, gSI] at ho
      subst ho
      have gd : ρ (.tmp 24) = .bool true := hdep 2 24 (by kernel_rfl) (by kernel_rfl)
      refine ⟨fun _ => ?_, fun hw => absurd (show (match ρ (.tmp 24) with | .bool c => c == true | _ => false) = false from hw) (by rw [gd]; decide)⟩
      clear gd
      have ts : ρ (.tmp 4) = .int .i64 0 := hfr 4 (by kernel_rfl)
      simp [go_sem, ts]
      exact ⟨Below.refl _ _, rfl⟩
    | 4, _, ho, hf, hg, hfr, hdep =>
      simp only [gTA, gCZ, gCS, gSI] at ho
      subst ho
      have gd : ρ (.tmp 24) = .bool true := hdep 2 24 (by kernel_rfl) (by kernel_rfl)
      refine ⟨fun _ => ?_, fun hw => absurd (show (match ρ (.tmp 24) with | .bool c => c == true | _ => false) = false from hw) (by rw [gd]; decide)⟩
      clear gd
      have d0 : ρ (.tmp 25) = .int .i64 0 := hdep 3 25 (by kernel_rfl) (by kernel_rfl)
      simp [go_sem, d0, hcs]
      exact ⟨Below.refl _ _, rfl⟩
    | 5, _, ho, hf, hg, hfr, hdep =>
      simp only [gTA, gCZ, gCS, gSI] at ho
      subst ho
      refine ⟨fun _ => ?_, fun hw => absurd (show true = false from hw) (by decide)⟩
      have d0 : ρ (.tmp 24) = .bool true := hdep 2 24 (by kernel_rfl) (by kernel_rfl)
      have d1 : ρ (.tmp 26) = .bool true := hdep 4 26 (by kernel_rfl) (by kernel_rfl)
      simp [go_sem, d0, d1]
      exact ⟨Below.refl _ _, rfl⟩
    | 6, _, ho, hf, hg, hfr, hdep =>
      simp only [gTA, gCZ, gCS, gSI] at ho
      subst ho
      refine ⟨fun _ => ?_, fun hw => absurd (show true = false from hw) (by decide)⟩
      have d0 : ρ (.tmp 27) = .bool true := hdep 5 27 (by kernel_rfl) (by kernel_rfl)
      simp [go_sem, d0]
      exact ⟨Below.refl _ _, rfl⟩
    | 7, _, ho, hf, hg, hfr, hdep =>
      simp only [gTA, gCZ, gCS, gSI] at ho
      subst ho
      have gd : ρ (.tmp 28) = .bool true := hdep 6 28 (by kernel_rfl) (by kernel_rfl)
      refine ⟨fun _ => ?_, fun hw => absurd (show (match ρ (.tmp 28) with | .bool c => c == true | _ => false) = false from hw) (by rw [gd]; decide)⟩
      clear gd
      have ts : ρ (.tmp 6) = .pointer (some ⟨fb, 0, none⟩) := hfr 6 (by kernel_rfl)
      simp [go_sem, ts, f0, f1]
      exact ⟨Below.refl _ _, rfl⟩
    | 8, _, ho, hf, hg, hfr, hdep =>
      simp only [gTA, gCZ, gCS, gSI] at ho
      subst ho
      have gd : ρ (.tmp 28) = .bool true := hdep 6 28 (by kernel_rfl) (by kernel_rfl)
      refine ⟨fun _ => ?_, fun hw => absurd (show (match ρ (.tmp 28) with | .bool c => c == true | _ => false) = false from hw) (by rw [gd]; decide)⟩
      clear gd
      simp [go_sem]
      exact ⟨Below.refl _ _, rfl⟩
    | 9, _, ho, hf, hg, hfr, hdep =>
      simp only [gTA, gCZ, gCS, gSI] at ho
      subst ho
      have gd : ρ (.tmp 28) = .bool true := hdep 6 28 (by kernel_rfl) (by kernel_rfl)
      refine ⟨fun _ => ?_, fun hw => absurd (show (match ρ (.tmp 28) with | .bool c => c == true | _ => false) = false from hw) (by rw [gd]; decide)⟩
      clear gd
      have d0 : ρ (.tmp 29) = .agg #[.int .i64 0, .int .i64 0] := hdep 7 29 (by kernel_rfl) (by kernel_rfl)
      have d1 : ρ (.tmp 30) = .agg #[.int .i64 0, .int .i64 0] := hdep 8 30 (by kernel_rfl) (by kernel_rfl)
      simp [go_sem, d0, d1]
      exact ⟨Below.refl _ _, rfl⟩
    | 10, _, ho, hf, hg, hfr, hdep =>
      simp only [gTA, gCZ, gCS, gSI] at ho
      subst ho
      refine ⟨fun _ => ?_, fun hw => absurd (show true = false from hw) (by decide)⟩
      have d0 : ρ (.tmp 28) = .bool true := hdep 6 28 (by kernel_rfl) (by kernel_rfl)
      have d1 : ρ (.tmp 31) = .bool true := hdep 9 31 (by kernel_rfl) (by kernel_rfl)
      simp [go_sem, d0, d1]
      exact ⟨Below.refl _ _, rfl⟩
    | 11, _, ho, hf, hg, hfr, hdep =>
      simp only [gTA, gCZ, gCS, gSI] at ho
      subst ho
      refine ⟨fun _ => ?_, fun hw => absurd (show true = false from hw) (by decide)⟩
      have d0 : ρ (.tmp 32) = .bool true := hdep 10 32 (by kernel_rfl) (by kernel_rfl)
      simp [go_sem, d0]
      exact ⟨Below.refl _ _, rfl⟩
    | 12, _, ho, hf, hg, hfr, hdep =>
      simp only [gTA, gCZ, gCS, gSI] at ho
      subst ho
      have gd : ρ (.tmp 33) = .bool true := hdep 11 33 (by kernel_rfl) (by kernel_rfl)
      refine ⟨fun _ => ?_, fun hw => absurd (show (match ρ (.tmp 33) with | .bool c => c == true | _ => false) = false from hw) (by rw [gd]; decide)⟩
      clear gd
      have ts : ρ (.tmp 1) = .int .i64 11 := hfr 1 (by kernel_rfl)
      simp [go_sem, ts]
      exact ⟨Below.refl _ _, rfl⟩
    | 13, _, ho, hf, hg, hfr, hdep =>
      simp only [gTA, gCZ, gCS, gSI] at ho
      subst ho
      have gd : ρ (.tmp 33) = .bool true := hdep 11 33 (by kernel_rfl) (by kernel_rfl)
      refine ⟨fun _ => ?_, fun hw => absurd (show (match ρ (.tmp 33) with | .bool c => c == true | _ => false) = false from hw) (by rw [gd]; decide)⟩
      clear gd
      have d0 : ρ (.tmp 34) = .int .i64 11 := hdep 12 34 (by kernel_rfl) (by kernel_rfl)
      simp [go_sem, d0, hcs]
      exact ⟨Below.refl _ _, rfl⟩
    | 14, _, ho, hf, hg, hfr, hdep =>
      simp only [gTA, gCZ, gCS, gSI] at ho
      subst ho
      refine ⟨fun _ => ?_, fun hw => absurd (show true = false from hw) (by decide)⟩
      have d0 : ρ (.tmp 33) = .bool true := hdep 11 33 (by kernel_rfl) (by kernel_rfl)
      have d1 : ρ (.tmp 35) = .bool true := hdep 13 35 (by kernel_rfl) (by kernel_rfl)
      simp [go_sem, d0, d1]
      exact ⟨Below.refl _ _, rfl⟩
    | 15, _, ho, hf, hg, hfr, hdep =>
      simp only [gTA, gCZ, gCS, gSI] at ho
      subst ho
      refine ⟨fun _ => ?_, fun hw => absurd (show true = false from hw) (by decide)⟩
      have d0 : ρ (.tmp 36) = .bool true := hdep 14 36 (by kernel_rfl) (by kernel_rfl)
      simp [go_sem, d0]
      exact ⟨Below.refl _ _, rfl⟩
    | 16, _, ho, hf, hg, hfr, hdep =>
      simp only [gTA, gCZ, gCS, gSI] at ho
      subst ho
      have gd : ρ (.tmp 37) = .bool true := hdep 15 37 (by kernel_rfl) (by kernel_rfl)
      refine ⟨fun _ => ?_, fun hw => absurd (show (match ρ (.tmp 37) with | .bool c => c == true | _ => false) = false from hw) (by rw [gd]; decide)⟩
      clear gd
      have ts : ρ (.tmp 3) = .string S := hfr 3 (by kernel_rfl)
      simp [go_sem, ts]
      exact ⟨Below.refl _ _, rfl⟩
    | 17, _, ho, hf, hg, hfr, hdep =>
      simp only [gTA, gCZ, gCS, gSI] at ho
      subst ho
      have gd : ρ (.tmp 37) = .bool true := hdep 15 37 (by kernel_rfl) (by kernel_rfl)
      refine ⟨fun _ => ?_, fun hw => absurd (show (match ρ (.tmp 37) with | .bool c => c == true | _ => false) = false from hw) (by rw [gd]; decide)⟩
      clear gd
      have d0 : ρ (.tmp 38) = .string S := hdep 16 38 (by kernel_rfl) (by kernel_rfl)
      simp [go_sem, d0, HS.out]
      exact ⟨Below.refl _ _, rfl⟩
    | 18, _, ho, hf, hg, hfr, hdep =>
      simp only [gTA, gCZ, gCS, gSI] at ho
      subst ho
      have gd : ρ (.tmp 37) = .bool true := hdep 15 37 (by kernel_rfl) (by kernel_rfl)
      refine ⟨fun _ => ?_, fun hw => absurd (show (match ρ (.tmp 37) with | .bool c => c == true | _ => false) = false from hw) (by rw [gd]; decide)⟩
      clear gd
      have d0 : ρ (.tmp 39) = .int .i64 30 := hdep 17 39 (by kernel_rfl) (by kernel_rfl)
      simp [go_sem, d0, hcs]
      exact ⟨Below.refl _ _, rfl⟩
    | 19, _, ho, hf, hg, hfr, hdep =>
      simp only [gTA, gCZ, gCS, gSI] at ho
      subst ho
      refine ⟨fun _ => ?_, fun hw => absurd (show true = false from hw) (by decide)⟩
      have d0 : ρ (.tmp 37) = .bool true := hdep 15 37 (by kernel_rfl) (by kernel_rfl)
      have d1 : ρ (.tmp 40) = .bool true := hdep 18 40 (by kernel_rfl) (by kernel_rfl)
      simp [go_sem, d0, d1]
      exact ⟨Below.refl _ _, rfl⟩
    | 20, _, ho, hf, hg, hfr, hdep =>
      simp only [gTA, gCZ, gCS, gSI] at ho
      subst ho
      refine ⟨fun _ => ?_, fun hw => absurd (show true = false from hw) (by decide)⟩
      have d0 : ρ (.tmp 41) = .bool true := hdep 19 41 (by kernel_rfl) (by kernel_rfl)
      simp [go_sem, d0]
      exact ⟨Below.refl _ _, rfl⟩
    | 21, _, ho, hf, hg, hfr, hdep =>
      simp only [gTA, gCZ, gCS, gSI] at ho
      subst ho
      have gd : ρ (.tmp 42) = .bool true := hdep 20 42 (by kernel_rfl) (by kernel_rfl)
      refine ⟨fun _ => ?_, fun hw => absurd (show (match ρ (.tmp 42) with | .bool c => c == true | _ => false) = false from hw) (by rw [gd]; decide)⟩
      clear gd
      have ts : ρ (.tmp 5) = .pointer (some ⟨pb, 0, none⟩) := hfr 5 (by kernel_rfl)
      simp [go_sem, ts, p0, p1, p2, p3, p4, p5, p6]
      exact ⟨Below.refl _ _, rfl⟩
    | 22, _, ho, hf, hg, hfr, hdep =>
      simp only [gTA, gCZ, gCS, gSI] at ho
      subst ho
      have gd : ρ (.tmp 42) = .bool true := hdep 20 42 (by kernel_rfl) (by kernel_rfl)
      refine ⟨fun _ => ?_, fun hw => absurd (show (match ρ (.tmp 42) with | .bool c => c == true | _ => false) = false from hw) (by rw [gd]; decide)⟩
      clear gd
      simp [go_sem, hfs]
      refine ⟨rfl, ?_⟩
      exact (counting_any w').mono fun e w'' hh => by obtain ⟨b1, b3, y, e1, e2, e3⟩ := hh; exact ⟨_, e1, e3, b1, b3, y, rfl, e2⟩
    | 23, _, ho, hf, hg, hfr, hdep =>
      simp only [gTA, gCZ, gCS, gSI] at ho
      subst ho
      have gd : ρ (.tmp 42) = .bool true := hdep 20 42 (by kernel_rfl) (by kernel_rfl)
      refine ⟨fun _ => ?_, fun hw => absurd (show (match ρ (.tmp 42) with | .bool c => c == true | _ => false) = false from hw) (by rw [gd]; decide)⟩
      clear gd
      have cs : CntS w' (ρ (.tmp 44)) := hdep 22 44 (by kernel_rfl) (by kernel_rfl)
      obtain ⟨b1, b3, y, ec, lc⟩ := cs
      have d0 : ρ (.tmp 43) = .agg #[.int .i64 2, .int .i64 1, .int .i64 0, .int .i64 1, .slice a1 1 c1, .slice a2 0 c2, .slice a3 5 c3] := hdep 21 43 (by kernel_rfl) (by kernel_rfl)
      simp [go_sem, hfs, d0]
      refine ⟨rfl, ?_⟩
      rw [ec]
      exact (cnt_same _ _ _ _ _ _ _ _ _ _ _ w' (PL.out.below hC) lc).mono fun e w'' hh => ⟨_, hh.1, hh.2, rfl⟩
    | 24, _, ho, hf, hg, hfr, hdep =>
      simp only [gTA, gCZ, gCS, gSI] at ho
      subst ho
      refine ⟨fun _ => ?_, fun hw => absurd (show true = false from hw) (by decide)⟩
      have d0 : ρ (.tmp 42) = .bool true := hdep 20 42 (by kernel_rfl) (by kernel_rfl)
      have d1 : ρ (.tmp 45) = .bool true := hdep 23 45 (by kernel_rfl) (by kernel_rfl)
      simp [go_sem, d0, d1]
      exact ⟨Below.refl _ _, rfl⟩
    | 25, _, ho, hf, hg, hfr, hdep =>
      simp only [gTA, gCZ, gCS, gSI] at ho
      subst ho
      refine ⟨fun _ => ?_, fun hw => absurd (show true = false from hw) (by decide)⟩
      have d0 : ρ (.tmp 46) = .bool true := hdep 24 46 (by kernel_rfl) (by kernel_rfl)
      simp [go_sem, d0]
      exact ⟨Below.refl _ _, rfl⟩
    | n + 26, _, ho, _, _, _, _ => simp at ho
  · intro d_ i o ρ w' hm ho h0 hf hg hC hcs hfs hfr hdep
    exact absurd hm (by simp)
  · intro V w9 hC9 hS
    have cs : CntS w9 (V 22) := hS 22 (by decide) (by intro h; cases h)
    obtain ⟨b1, b3, y, ec, -⟩ := cs
    have e0 : V 0 = .int .i64 0 := hS 0 (by decide) (by intro h; cases h)
    have e1 : V 1 = .bool true := hS 1 (by decide) (by intro h; cases h)
    have e2 : V 2 = .bool true := hS 2 (by decide) (by intro h; cases h)
    have e3 : V 3 = .int .i64 0 := hS 3 (by decide) (by intro h; cases h)
    have e4 : V 4 = .bool true := hS 4 (by decide) (by intro h; cases h)
    have e5 : V 5 = .bool true := hS 5 (by decide) (by intro h; cases h)
    have e6 : V 6 = .bool true := hS 6 (by decide) (by intro h; cases h)
    have e7 : V 7 = .agg #[.int .i64 0, .int .i64 0] := hS 7 (by decide) (by intro h; cases h)
    have e8 : V 8 = .agg #[.int .i64 0, .int .i64 0] := hS 8 (by decide) (by intro h; cases h)
    have e9 : V 9 = .bool true := hS 9 (by decide) (by intro h; cases h)
    have e10 : V 10 = .bool true := hS 10 (by decide) (by intro h; cases h)
    have e11 : V 11 = .bool true := hS 11 (by decide) (by intro h; cases h)
    have e12 : V 12 = .int .i64 11 := hS 12 (by decide) (by intro h; cases h)
    have e13 : V 13 = .bool true := hS 13 (by decide) (by intro h; cases h)
    have e14 : V 14 = .bool true := hS 14 (by decide) (by intro h; cases h)
    have e15 : V 15 = .bool true := hS 15 (by decide) (by intro h; cases h)
    have e16 : V 16 = .string S := hS 16 (by decide) (by intro h; cases h)
    have e17 : V 17 = .int .i64 30 := hS 17 (by decide) (by intro h; cases h)
    have e18 : V 18 = .bool true := hS 18 (by decide) (by intro h; cases h)
    have e19 : V 19 = .bool true := hS 19 (by decide) (by intro h; cases h)
    have e20 : V 20 = .bool true := hS 20 (by decide) (by intro h; cases h)
    have e21 : V 21 = .agg #[.int .i64 2, .int .i64 1, .int .i64 0, .int .i64 1, .slice a1 1 c1, .slice a2 0 c2, .slice a3 5 c3] := hS 21 (by decide) (by intro h; cases h)
    have e23 : V 23 = .bool true := hS 23 (by decide) (by intro h; cases h)
    have e24 : V 24 = .bool true := hS 24 (by decide) (by intro h; cases h)
    have e25 : V 25 = .bool true := hS 25 (by decide) (by intro h; cases h)
    simp only [puts, ec, e0, e1, e2, e3, e4, e5, e6, e7, e8, e9, e10, e11, e12, e13, e14, e15, e16, e17, e18, e19, e20, e21, e23, e24, e25]
    simp only [Act.put, List.setIfInBounds_toArray, List.set_cons_zero, List.set_cons_succ]
    clear hS ec e0 e1 e2 e3 e4 e5 e6 e7 e8 e9 e10 e11 e12 e13 e14 e15 e16 e17 e18 e19 e20 e21 e23 e24 e25
    have B9 := hiddenC (B6.out.trans (hC9.mono B6.out.size))
    clear hC9
    go_wp2
    rw [← HPE.out]
    exact ⟨rfl, B9.out⟩
end Go.Proofs.Ytdjplmlfcolklaa
namespace Go.Proofs.Ytdjplmlfcolklaa
open Go.ChangeShapes Go.WideShapes Go.ChangeAt Go.RowKit
set_option maxRecDepth 100000 in
set_option maxHeartbeats 4000000 in
theorem sameOps_wide (a1 a2 : Option Addr) (L : List OpC) (n c1 c2 : Nat) (w : World) (hl : L.length = n) (hm : n ≤ 4611686018427387904) (h1 : AtV opV 3 w a1 L) (h2 : AtV opV 3 w a2 L) :
    Calls Try.prog 19 #[.slice a1 n c1, .slice a2 n c2] w fun e w' => e = .returned (.bool true) ∧ ∃ m, w' = w.drewN m := by
  have H1 := hiddenC h1
  have H2 := hiddenC h2
  have HL := hiddenC hl
  have q0 : ((n : Int) != (n : Int)) = false := by simp
  clear h1 h2 hl
  go_enter Try.func19, Try.ntmps19
  go_wp2
  clear q0
  go_loopg [5] n (fun gk u wr => ∃ (k m : Nat), k ≤ n ∧ gk = n - k ∧ u = .int .i64 (k : Int) ∧ wr = w.drewN m)
  case atStart => exact ⟨0, 0, Nat.zero_le _, rfl, rfl, rfl⟩
  case round =>
    obtain ⟨k, m, hk, rfl, rfl, rfl⟩ := hrel
    by_cases hlt : k < n
    · have hki : (k : Int) < (n : Int) := by omega
      have hkL : k < L.length := by rw [HL.out]; exact hlt
      rcases H1.out with e1 | ⟨b1, o1, rfl, hc⟩
      · rw [e1] at hkL; exact absurd hkL (Nat.not_lt_zero _)
      rcases H2.out with e1 | ⟨b2, o2, rfl, hd⟩
      · rw [e1] at hkL; exact absurd hkL (Nat.not_lt_zero _)
      have hg : L[k]? = some L[k] := List.getElem?_eq_getElem hkL
      generalize L[k] = x at hg
      obtain ⟨t, a, b⟩ := x
      have r0 := hc k _ hg 0 _ rfl
      have r1 := hc k _ hg 1 _ rfl
      have r2 := hc k _ hg 2 _ rfl
      have s0 := hd k _ hg 0 _ rfl
      have s1 := hd k _ hg 1 _ rfl
      have s2 := hd k _ hg 2 _ rfl
      simp only [Nat.add_zero] at r0 s0
      clear hc hd hg
      go_wp2
      go_quiet (fail)
      go_wp2
      go_roundg (n - (k + 1))
      case measure => omega
      case rel => exact ⟨k + 1, m + nq, by omega, rfl, by go_num, rfl⟩
    · have hki : ¬ (k : Int) < (n : Int) := by omega
      go_wp2
      go_ret
      exact ⟨rfl, m, rfl⟩
set_option maxRecDepth 100000 in
set_option maxHeartbeats 8000000 in
theorem sameProg_wide (p : PrgC) (a1 : Option Addr) (c1 : Nat) (a2 : Option Addr) (c2 : Nat) (a3 : Option Addr) (c3 : Nat) (b1 : Option Addr) (d1 : Nat) (b2 : Option Addr) (d2 : Nat) (b3 : Option Addr) (d3 : Nat) (LP LP' : List (PrtC × (Option Addr × Nat))) (LL LL' : List (LinC × (Option Addr × Nat))) (W : World) (hL : PrgL W p a1 a2 a3 LP LL) (hL' : PrgL W p b1 b2 b3 LP' LL')
    (hP : p.parts.length ≤ 4611686018427387904) (hN : p.lines.length ≤ 4611686018427387904) (hO : p.ops.length ≤ 4611686018427387904) (hPs : ∀ q ∈ p.parts, q.ps.length ≤ 4611686018427387904) (hNs : ∀ q ∈ p.lines, q.start.length ≤ 4611686018427387904) :
    Calls Try.prog 10 #[prgV p a1 c1 a2 c2 a3 c3, prgV p b1 d1 b2 d2 b3 d3] W fun e w' => e = .returned (.bool true) ∧ Below W.heap.size W w' := by
  have HL := hiddenC hL
  have HM := hiddenC hL'
  have HPs := hiddenC hPs
  have HNs := hiddenC hNs
  have LPe : Hid (LP.length = p.parts.length) := hL.lenP
  have LLe : Hid (LL.length = p.lines.length) := hL.lenL
  have LPe' : Hid (LP'.length = p.parts.length) := hL'.lenP
  have LLe' : Hid (LL'.length = p.lines.length) := hL'.lenL
  have OC : Hid (∀ U, Below W.heap.size W U → Calls Try.prog 19 #[.slice a3 p.ops.length c3, .slice b3 p.ops.length d3] U fun e w' => e = .returned (.bool true) ∧ ∃ m, w' = U.drewN m) := fun U hb => sameOps_wide a3 b3 p.ops _ c3 d3 U rfl hO (hL.oa.below hb) (hL'.oa.below hb)
  unfold prgV
  obtain ⟨nP, hnP⟩ : ∃ n, p.parts.length = n := ⟨_, rfl⟩
  obtain ⟨nL, hnL⟩ : ∃ n, p.lines.length = n := ⟨_, rfl⟩
  obtain ⟨nO, hnO⟩ : ∃ n, p.ops.length = n := ⟨_, rfl⟩
  rw [hnP] at LPe LPe' hP ⊢
  rw [hnL] at LLe LLe' hN ⊢
  rw [hnO] at OC hO ⊢
  have i0 : (p.mem != p.mem) = false := by simp
  have i1 : (p.cnt != p.cnt) = false := by simp
  have i2 : (p.ins != p.ins) = false := by simp
  have i3 : (p.outs != p.outs) = false := by simp
  have i4 : ((nP : Int) != (nP : Int)) = false := by simp
  have i5 : ((nL : Int) != (nL : Int)) = false := by simp
  have I5 := hiddenC i5
  have hbA := (Below.refl W.heap.size W).alloc (Nat.le_refl _) (.cells #[.int .i64 p.mem, .int .i64 p.cnt, .int .i64 p.ins, .int .i64 p.outs, .slice a1 nP c1, .slice a2 nL c2, .slice a3 nO c3] 26)
  have hbB := hbA.alloc hbA.size (.cells #[.int .i64 p.mem, .int .i64 p.cnt, .int .i64 p.ins, .int .i64 p.outs, .slice b1 nP d1, .slice b2 nL d2, .slice b3 nO d3] 26)
  have HBB := hiddenC hbB
  have G0 := hiddenC ((blkA_new 26 W #[.int .i64 p.mem, .int .i64 p.cnt, .int .i64 p.ins, .int .i64 p.outs, .slice a1 nP c1, .slice a2 nL c2, .slice a3 nO c3]).below ((Below.refl _ _).alloc (Nat.le_refl _) (.cells #[.int .i64 p.mem, .int .i64 p.cnt, .int .i64 p.ins, .int .i64 p.outs, .slice b1 nP d1, .slice b2 nL d2, .slice b3 nO d3] 26)))
  have G1 := hiddenC (blkA_new 26 (W.alloc (.cells #[.int .i64 p.mem, .int .i64 p.cnt, .int .i64 p.ins, .int .i64 p.outs, .slice a1 nP c1, .slice a2 nL c2, .slice a3 nO c3] 26)) #[.int .i64 p.mem, .int .i64 p.cnt, .int .i64 p.ins, .int .i64 p.outs, .slice b1 nP d1, .slice b2 nL d2, .slice b3 nO d3])
  have hsz : (W.alloc (.cells #[.int .i64 p.mem, .int .i64 p.cnt, .int .i64 p.ins, .int .i64 p.outs, .slice a1 nP c1, .slice a2 nL c2, .slice a3 nO c3] 26)).heap.size = W.heap.size + 1 := World.size_alloc ..
  clear hL hL' hPs hNs hnP hnL hnO hbA hbB i5
  go_enter Try.func10, Try.ntmps10
  go_upto_region 1 with fail
  generalize (W.alloc (.cells #[.int .i64 p.mem, .int .i64 p.cnt, .int .i64 p.ins, .int .i64 p.outs, .slice a1 nP c1, .slice a2 nL c2, .slice a3 nO c3] 26)).alloc (.cells #[.int .i64 p.mem, .int .i64 p.cnt, .int .i64 p.ins, .int .i64 p.outs, .slice b1 nP d1, .slice b2 nL d2, .slice b3 nO d3] 26) = W1 at *
  have HSZ := hiddenC hsz
  clear hsz
  generalize W.alloc (.cells #[.int .i64 p.mem, .int .i64 p.cnt, .int .i64 p.ins, .int .i64 p.outs, .slice a1 nP c1, .slice a2 nL c2, .slice a3 nO c3] 26) = W0 at *
  have fu0 := G0.out.cell (k := 0) rfl
  have fv0 := G1.out.cell (k := 0) rfl
  have fu1 := G0.out.cell (k := 1) rfl
  have fv1 := G1.out.cell (k := 1) rfl
  have fu2 := G0.out.cell (k := 2) rfl
  have fv2 := G1.out.cell (k := 2) rfl
  have fu3 := G0.out.cell (k := 3) rfl
  have fv3 := G1.out.cell (k := 3) rfl
  have fu4 := G0.out.cell (k := 4) rfl
  have fv4 := G1.out.cell (k := 4) rfl
  have fu5 := G0.out.cell (k := 5) rfl
  have fv5 := G1.out.cell (k := 5) rfl
  have fu6 := G0.out.cell (k := 6) rfl
  have fv6 := G1.out.cell (k := 6) rfl
  simp only [List.getElem_toArray, List.getElem_cons_zero, List.getElem_cons_succ] at fu0 fv0 fu1 fv1 fu2 fv2 fu3 fv3 fu4 fv4 fu5 fv5 fu6 fv6
  rw [HSZ.out] at fv0 fv1 fv2 fv3 fv4 fv5 fv6
  have i5 := I5.out
  go_upto_region 3 with fail
  go_wp2
  clear fu0 fu1 fu2 fu3 fv0 fv1 fv2 fv3 i0 i1 i2 i3 i4 i5 fu6 fv6
  go_loopg [5] nP (fun gk u wr => ∃ (k m : Nat), k ≤ nP ∧ gk = nP - k ∧ u = .int .i64 (k : Int) ∧ wr = W1.drewN m)
  case atStart => exact ⟨0, 0, Nat.zero_le _, rfl, rfl, rfl⟩
  case round =>
    obtain ⟨k, m, hk, rfl, rfl, rfl⟩ := hrel
    by_cases hlt : k < nP
    · have hki : (k : Int) < (nP : Int) := by omega
      have hkL : k < LP.length := by rw [LPe.out]; exact hlt
      have hkM : k < LP'.length := by rw [LPe'.out]; exact hlt
      rcases HL.out.pa.below HBB.out with e1 | ⟨ab, off, rfl, hc⟩
      · rw [e1] at hkL; exact absurd hkL (Nat.not_lt_zero _)
      rcases HM.out.pa.below HBB.out with e1 | ⟨ab', off', rfl, hd⟩
      · rw [e1] at hkM; exact absurd hkM (Nat.not_lt_zero _)
      have hg : LP[k]? = some LP[k] := List.getElem?_eq_getElem hkL
      have hg' : LP'[k]? = some LP'[k] := List.getElem?_eq_getElem hkM
      have same : LP'[k].1 = LP[k].1 := by
        have q1 : (LP.map Prod.fst)[k]? = some LP[k].1 := by rw [List.getElem?_map, hg]; rfl
        have q2 : (LP'.map Prod.fst)[k]? = some LP'[k].1 := by rw [List.getElem?_map, hg']; rfl
        rw [HM.out.pe] at q2
        rw [HL.out.pe] at q1
        exact Option.some.inj (q2.symm.trans q1)
      have hin : LP[k].1.ps.length ≤ 4611686018427387904 := HPs.out _ (by rw [← HL.out.pe]; exact List.mem_map_of_mem (List.getElem_mem hkL))
      have A1 := hiddenC ((HL.out.pp _ (List.getElem_mem hkL)).below HBB.out)
      have A2 := hiddenC ((HM.out.pp _ (List.getElem_mem hkM)).below HBB.out)
      generalize LP[k] = x at *
      generalize LP'[k] = x' at *
      obtain ⟨x, y, yc⟩ := x
      obtain ⟨x', y', yc'⟩ := x'
      simp only at same
      subst same
      obtain ⟨t, zs⟩ := x'
      simp only at A1 A2 hin
      have r0 := hc k _ hg 0 _ rfl
      have s0 := hd k _ hg' 0 _ rfl
      have r1 := hc k _ hg 1 _ rfl
      have s1 := hd k _ hg' 1 _ rfl
      simp only [Nat.add_zero] at r0 s0
      have SI : Hid (∀ q, Calls Try.prog 25 #[.slice y zs.length yc, .slice y' zs.length yc'] ((W1.drewN m).drewN q) fun e w' => e = .returned (.bool true) ∧ ∃ p, w' = ((W1.drewN m).drewN q).drewN p) := fun q => (same_any y y' zs _ yc yc' ((W1.drewN m).drewN q) rfl (by omega) (A1.out.below (drewX (drewX (Below.refl _ _) m) q)) (A2.out.below (drewX (drewX (Below.refl _ _) m) q))).mono fun e w' hh => by
        obtain ⟨m, e1, e2⟩ := hh
        exact ⟨e1, m, e2⟩
      generalize zs.length = nk at *
      have e0 : (W1.drewN m).cell? _ = _ := r0
      have e1 : (W1.drewN m).cell? _ = _ := s0
      have e2 : (W1.drewN m).cell? _ = _ := r1
      have e3 : (W1.drewN m).cell? _ = _ := s1
      have e4 : (W1.drewN m).cell? _ = _ := fu4
      have e5 : (W1.drewN m).cell? _ = _ := fv4
      clear hc hd hg hg' A1 A2 hin hkL hkM r0 s0 r1 s1 fu4 fv4
      obtain ⟨Wm, hWm⟩ : ∃ W, W1.drewN m = W := ⟨_, rfl⟩
      have HWM := hiddenC hWm
      rw [hWm] at SI e0 e1 e2 e3 e4 e5 ⊢
      clear hWm
      go_upto_region 6 with fail
      go_quiet (first | (go_at_call 25; (with_reducible refine Calls.quiet_of (SI.out _))))
      go_wp2
      go_roundg (nP - (k + 1))
      case measure => omega
      case rel => exact ⟨k + 1, m + nq, by omega, rfl, by go_num, by rw [← HWM.out]; simp⟩
    · have hki : ¬ (k : Int) < (nP : Int) := by omega
      have w4 : (W1.drewN m).cell? _ = _ := fu4
      have w5 : (W1.drewN m).cell? _ = _ := fu5
      have x5 : (W1.drewN m).cell? _ = _ := fv5
      obtain ⟨W2, hW2⟩ : ∃ W, W1.drewN m = W := ⟨_, rfl⟩
      have HB2 : Hid (Below W.heap.size W W2) := by rw [← hW2]; exact drewX HBB.out m
      have y6 : W2.cell? ⟨W.heap.size, 6, none⟩ = some (.slice a3 nO c3) := by rw [← hW2]; exact G0.out.cell (k := 6) rfl
      have z6 : W2.cell? ⟨W.heap.size + 1, 6, none⟩ = some (.slice b3 nO d3) := by rw [← hW2, ← HSZ.out]; exact G1.out.cell (k := 6) rfl
      rw [hW2] at w4 w5 x5 ⊢
      clear hW2 HBB G0 G1 hki hk
      have HY := hiddenC y6
      have HZ := hiddenC z6
      clear y6 z6
      go_upto_region 8 with fail
      clear w4 hlt
      go_wp2
      go_loopg [6] nL (fun gk u wr => ∃ (k m : Nat), k ≤ nL ∧ gk = nL - k ∧ u = .int .i64 (k : Int) ∧ wr = W2.drewN m)
      case atStart => exact ⟨0, 0, Nat.zero_le _, rfl, rfl, rfl⟩
      case round =>
        obtain ⟨k, m, hk, rfl, rfl, rfl⟩ := hrel
        by_cases hlt : k < nL
        · have hki : (k : Int) < (nL : Int) := by omega
          have hkL : k < LL.length := by rw [LLe.out]; exact hlt
          have hkM : k < LL'.length := by rw [LLe'.out]; exact hlt
          rcases HL.out.la.below HB2.out with e1 | ⟨ab, off, rfl, hc⟩
          · rw [e1] at hkL; exact absurd hkL (Nat.not_lt_zero _)
          rcases HM.out.la.below HB2.out with e1 | ⟨ab', off', rfl, hd⟩
          · rw [e1] at hkM; exact absurd hkM (Nat.not_lt_zero _)
          have hg : LL[k]? = some LL[k] := List.getElem?_eq_getElem hkL
          have hg' : LL'[k]? = some LL'[k] := List.getElem?_eq_getElem hkM
          have same : LL'[k].1 = LL[k].1 := by
            have q1 : (LL.map Prod.fst)[k]? = some LL[k].1 := by rw [List.getElem?_map, hg]; rfl
            have q2 : (LL'.map Prod.fst)[k]? = some LL'[k].1 := by rw [List.getElem?_map, hg']; rfl
            rw [HM.out.le] at q2
            rw [HL.out.le] at q1
            exact Option.some.inj (q2.symm.trans q1)
          have hin : LL[k].1.start.length ≤ 4611686018427387904 := HNs.out _ (by rw [← HL.out.le]; exact List.mem_map_of_mem (List.getElem_mem hkL))
          have A1 := hiddenC ((HL.out.lp _ (List.getElem_mem hkL)).below HB2.out)
          have A2 := hiddenC ((HM.out.lp _ (List.getElem_mem hkM)).below HB2.out)
          generalize LL[k] = x at *
          generalize LL'[k] = x' at *
          obtain ⟨x, y, yc⟩ := x
          obtain ⟨x', y', yc'⟩ := x'
          simp only at same
          subst same
          obtain ⟨ba, sz, zs⟩ := x'
          simp only at A1 A2 hin
          have r0 := hc k _ hg 0 _ rfl
          have s0 := hd k _ hg' 0 _ rfl
          have r1 := hc k _ hg 1 _ rfl
          have s1 := hd k _ hg' 1 _ rfl
          have r2 := hc k _ hg 2 _ rfl
          have s2 := hd k _ hg' 2 _ rfl
          simp only [Nat.add_zero] at r0 s0
          have SI : Hid (∀ q, Calls Try.prog 25 #[.slice y zs.length yc, .slice y' zs.length yc'] ((W2.drewN m).drewN q) fun e w' => e = .returned (.bool true) ∧ ∃ p, w' = ((W2.drewN m).drewN q).drewN p) := fun q => (same_any y y' zs _ yc yc' ((W2.drewN m).drewN q) rfl (by omega) (A1.out.below (drewX (drewX (Below.refl _ _) m) q)) (A2.out.below (drewX (drewX (Below.refl _ _) m) q))).mono fun e w' hh => by
            obtain ⟨m, e1, e2⟩ := hh
            exact ⟨e1, m, e2⟩
          generalize zs.length = nk at *
          have e0 : (W2.drewN m).cell? _ = _ := r0
          have e1 : (W2.drewN m).cell? _ = _ := s0
          have e2 : (W2.drewN m).cell? _ = _ := r1
          have e3 : (W2.drewN m).cell? _ = _ := s1
          have e4 : (W2.drewN m).cell? _ = _ := r2
          have e5 : (W2.drewN m).cell? _ = _ := s2
          have e6 : (W2.drewN m).cell? _ = _ := w5
          have e7 : (W2.drewN m).cell? _ = _ := x5
          clear hc hd hg hg' A1 A2 hin hkL hkM r0 s0 r1 s1 r2 s2 w5 x5
          obtain ⟨Wm, hWm⟩ : ∃ W, W2.drewN m = W := ⟨_, rfl⟩
          have HWM := hiddenC hWm
          rw [hWm] at SI e0 e1 e2 e3 e4 e5 e6 e7 ⊢
          clear hWm
          go_upto_region 11 with fail
          go_quiet (first | (go_at_call 25; (with_reducible refine Calls.quiet_of (SI.out _))))
          go_wp2
          go_roundg (nL - (k + 1))
          case measure => omega
          case rel => exact ⟨k + 1, m + nq, by omega, rfl, by go_num, by rw [← HWM.out]; simp⟩
        · have hki : ¬ (k : Int) < (nL : Int) := by omega
          have y5 : (W2.drewN m).cell? _ = _ := w5
          have y6 : (W2.drewN m).cell? _ = _ := HY.out
          have z6 : (W2.drewN m).cell? _ = _ := HZ.out
          have OC1 := hiddenC (OC.out _ (drewX HB2.out m))
          have HB3 := hiddenC (drewX HB2.out m)
          generalize W2.drewN m = W3 at *
          clear w5 x5
          go_upto_region 13 with fail
          go_wp2_with (go_at_call 19; (with_reducible refine OC1.out.mono ?_); rintro e w3 ⟨rfl, m3, hw3⟩; rw [hw3]; clear hw3 w3)
          first | exact ⟨rfl, drewX HB3.out _⟩ | (go_ret; exact ⟨rfl, drewX HB3.out _⟩) | (trace_state; fail)
set_option maxRecDepth 100000 in
theorem rpart_any (n k : Int) (W : World) : Calls Try.prog 68 #[.int .i64 n, .int .i64 k] W fun e w' => e = .returned (.bool (naC n k)) ∧ w' = W := by
  by_cases h1 : n ≥ 0
  · by_cases h2 : n < k
    · have e : naC n k = true := naC_iff.2 ⟨h1, h2⟩
      rw [e]; clear e
      go_enter Try.func68, Try.ntmps68
      go_wp2
      go_ret
      exact ⟨rfl, rfl⟩
    · have e : naC n k = false := by unfold naC; rw [decide_eq_false h2, Bool.and_false]
      rw [e]; clear e
      go_enter Try.func68, Try.ntmps68
      go_wp2
      go_ret
      exact ⟨rfl, rfl⟩
  · have e : naC n k = false := by unfold naC; rw [decide_eq_false h1, Bool.false_and]
    rw [e]; clear e
    go_enter Try.func68, Try.ntmps68
    go_wp2
    go_ret
    exact ⟨rfl, rfl⟩
set_option maxRecDepth 100000 in
theorem rcount_any (n k : Int) (W : World) : Calls Try.prog 69 #[.int .i64 n, .int .i64 k] W fun e w' => e = .returned (.bool (wiC n 1 k)) ∧ w' = W := by
  by_cases h1 : n ≥ 1
  · by_cases h2 : n ≤ k
    · have e : wiC n 1 k = true := wiC_iff.2 ⟨h1, h2⟩
      rw [e]; clear e
      go_enter Try.func69, Try.ntmps69
      go_wp2
      go_ret
      exact ⟨rfl, rfl⟩
    · have e : wiC n 1 k = false := by unfold wiC; rw [decide_eq_false h2, Bool.and_false]
      rw [e]; clear e
      go_enter Try.func69, Try.ntmps69
      go_wp2
      go_ret
      exact ⟨rfl, rfl⟩
  · have e : wiC n 1 k = false := by unfold wiC; rw [decide_eq_false h1, Bool.false_and]
    rw [e]; clear e
    go_enter Try.func69, Try.ntmps69
    go_wp2
    go_ret
    exact ⟨rfl, rfl⟩
set_option maxRecDepth 100000 in
set_option maxHeartbeats 2000000 in
theorem rallow_1 (p : PrgC) (a b : Int) (k : Nat) (aP : Option Addr) (cP : Nat) (aL : Option Addr) (cL : Nat) (ab off : Nat) (cO : Nat) (W : World) (hk : k < p.ops.length) (_hm : p.ops.length ≤ 1000000) (r0 : W.cell? ⟨ab, off + k * 3, none⟩ = some (.int .u8 1)) (r1 : W.cell? ⟨ab, off + k * 3 + 1, none⟩ = some (.int .i64 a)) (r2 : W.cell? ⟨ab, off + k * 3 + 2, none⟩ = some (.int .i64 b)) : Calls Try.prog 43 #[prgV p aP cP aL cL (some ⟨ab, off, none⟩) cO, .int .i64 (k : Int)] W fun e w' => e = .returned (.bool (mayC p ⟨1, a, b⟩ k)) ∧ Below W.heap.size W w' := by
  have E : mayC p ⟨1, a, b⟩ k = (naC a p.cnt && wiC b 1 2048) := by simp [mayC, letsC]
  rw [E]
  clear E
  have N1 : Hid (∀ U, Calls Try.prog 68 #[.int .i64 a, .int .i64 p.cnt] U fun e w' => e = .returned (.bool (naC a p.cnt)) ∧ w' = U) := fun U => rpart_any _ _ U
  have N2 : Hid (∀ U, Calls Try.prog 69 #[.int .i64 b, .int .i64 2048] U fun e w' => e = .returned (.bool (wiC b 1 2048)) ∧ w' = U) := fun U => rcount_any _ _ U
  generalize wiC b 1 2048 = y at *
  generalize naC a p.cnt = x at *
  unfold prgV
  have hki : (k : Int) < (p.ops.length : Int) := by omega
  generalize p.parts.length = nP at *
  generalize p.lines.length = nL at *
  generalize p.ops.length = nO at *
  cases x with
  | false =>
    rw [Bool.false_and]
    have c0 := (Below.refl W.heap.size W).alloc (Nat.le_refl _) (.cells #[.int .i64 p.mem, .int .i64 p.cnt, .int .i64 p.ins, .int .i64 p.outs, .slice aP nP cP, .slice aL nL cL, .slice (some ⟨ab, off, none⟩) nO cO] 26)
    have G0 := hiddenC (blkA_new 26 W #[.int .i64 p.mem, .int .i64 p.cnt, .int .i64 p.ins, .int .i64 p.outs, .slice aP nP cP, .slice aL nL cL, .slice (some ⟨ab, off, none⟩) nO cO])
    have B0 := hiddenC c0
    have s0 := cellC_later c0 r0
    have s1 := cellC_later c0 r1
    have s2 := cellC_later c0 r2
    clear c0 r0 r1 r2
    go_enter Try.func43, Try.ntmps43
    go_upto_region 1 with fail
    generalize W.alloc (.cells #[.int .i64 p.mem, .int .i64 p.cnt, .int .i64 p.ins, .int .i64 p.outs, .slice aP nP cP, .slice aL nL cL, .slice (some ⟨ab, off, none⟩) nO cO] 26) = W1 at *
    have z0 := G0.out.cell (k := 0) rfl
    have z1 := G0.out.cell (k := 1) rfl
    have z2 := G0.out.cell (k := 2) rfl
    have z3 := G0.out.cell (k := 3) rfl
    have z4 := G0.out.cell (k := 4) rfl
    have z5 := G0.out.cell (k := 5) rfl
    have z6 := G0.out.cell (k := 6) rfl
    simp only [List.getElem_toArray, List.getElem_cons_zero, List.getElem_cons_succ] at z0 z1 z2 z3 z4 z5 z6
    have c1 := (Below.refl W1.heap.size W1).alloc (Nat.le_refl _) (.cells #[.int .u8 1, .int .i64 a, .int .i64 b] 53)
    have G1 := hiddenC (G0.out.below c1)
    have B1 := hiddenC (B0.out.trans (c1.mono B0.out.size))
    have g1 := blkA_new 53 W1 #[.int .u8 1, .int .i64 a, .int .i64 b]
    go_upto_region 2 with fail
    generalize W1.alloc (.cells #[.int .u8 1, .int .i64 a, .int .i64 b] 53) = W2 at *
    have o0 := g1.cell (k := 0) rfl
    have o1 := g1.cell (k := 1) rfl
    have o2 := g1.cell (k := 2) rfl
    simp only [List.getElem_toArray, List.getElem_cons_zero, List.getElem_cons_succ] at o0 o1 o2
    clear c1 g1 z0 z1 z2 z3 z4 z5 z6 s0 s1 s2
    have z0 := G1.out.cell (k := 0) rfl
    have z1 := G1.out.cell (k := 1) rfl
    have z2 := G1.out.cell (k := 2) rfl
    have z3 := G1.out.cell (k := 3) rfl
    have z4 := G1.out.cell (k := 4) rfl
    have z5 := G1.out.cell (k := 5) rfl
    have z6 := G1.out.cell (k := 6) rfl
    simp only [List.getElem_toArray, List.getElem_cons_zero, List.getElem_cons_succ] at z0 z1 z2 z3 z4 z5 z6
    go_wp2_with (first
      | (go_at_call 69; (with_reducible refine (N2.out _).mono ?_); rintro e w' ⟨rfl, hw'⟩; rw [hw']; clear hw' w')
      | (go_at_call 68; (with_reducible refine (N1.out _).mono ?_); rintro e w' ⟨rfl, hw'⟩; rw [hw']; clear hw' w'))
    go_ret
    exact ⟨rfl, B1.out⟩
  | true =>
    rw [Bool.true_and]
    have c0 := (Below.refl W.heap.size W).alloc (Nat.le_refl _) (.cells #[.int .i64 p.mem, .int .i64 p.cnt, .int .i64 p.ins, .int .i64 p.outs, .slice aP nP cP, .slice aL nL cL, .slice (some ⟨ab, off, none⟩) nO cO] 26)
    have G0 := hiddenC (blkA_new 26 W #[.int .i64 p.mem, .int .i64 p.cnt, .int .i64 p.ins, .int .i64 p.outs, .slice aP nP cP, .slice aL nL cL, .slice (some ⟨ab, off, none⟩) nO cO])
    have B0 := hiddenC c0
    have s0 := cellC_later c0 r0
    have s1 := cellC_later c0 r1
    have s2 := cellC_later c0 r2
    clear c0 r0 r1 r2
    go_enter Try.func43, Try.ntmps43
    go_upto_region 1 with fail
    generalize W.alloc (.cells #[.int .i64 p.mem, .int .i64 p.cnt, .int .i64 p.ins, .int .i64 p.outs, .slice aP nP cP, .slice aL nL cL, .slice (some ⟨ab, off, none⟩) nO cO] 26) = W1 at *
    have z0 := G0.out.cell (k := 0) rfl
    have z1 := G0.out.cell (k := 1) rfl
    have z2 := G0.out.cell (k := 2) rfl
    have z3 := G0.out.cell (k := 3) rfl
    have z4 := G0.out.cell (k := 4) rfl
    have z5 := G0.out.cell (k := 5) rfl
    have z6 := G0.out.cell (k := 6) rfl
    simp only [List.getElem_toArray, List.getElem_cons_zero, List.getElem_cons_succ] at z0 z1 z2 z3 z4 z5 z6
    have c1 := (Below.refl W1.heap.size W1).alloc (Nat.le_refl _) (.cells #[.int .u8 1, .int .i64 a, .int .i64 b] 53)
    have G1 := hiddenC (G0.out.below c1)
    have B1 := hiddenC (B0.out.trans (c1.mono B0.out.size))
    have g1 := blkA_new 53 W1 #[.int .u8 1, .int .i64 a, .int .i64 b]
    go_upto_region 2 with fail
    generalize W1.alloc (.cells #[.int .u8 1, .int .i64 a, .int .i64 b] 53) = W2 at *
    have o0 := g1.cell (k := 0) rfl
    have o1 := g1.cell (k := 1) rfl
    have o2 := g1.cell (k := 2) rfl
    simp only [List.getElem_toArray, List.getElem_cons_zero, List.getElem_cons_succ] at o0 o1 o2
    clear c1 g1 z0 z1 z2 z3 z4 z5 z6 s0 s1 s2
    have z0 := G1.out.cell (k := 0) rfl
    have z1 := G1.out.cell (k := 1) rfl
    have z2 := G1.out.cell (k := 2) rfl
    have z3 := G1.out.cell (k := 3) rfl
    have z4 := G1.out.cell (k := 4) rfl
    have z5 := G1.out.cell (k := 5) rfl
    have z6 := G1.out.cell (k := 6) rfl
    simp only [List.getElem_toArray, List.getElem_cons_zero, List.getElem_cons_succ] at z0 z1 z2 z3 z4 z5 z6
    go_wp2_with (first
      | (go_at_call 69; (with_reducible refine (N2.out _).mono ?_); rintro e w' ⟨rfl, hw'⟩; rw [hw']; clear hw' w')
      | (go_at_call 68; (with_reducible refine (N1.out _).mono ?_); rintro e w' ⟨rfl, hw'⟩; rw [hw']; clear hw' w'))
    go_ret
    exact ⟨rfl, B1.out⟩
set_option maxRecDepth 100000 in
set_option maxHeartbeats 2000000 in
theorem rallow_2 (p : PrgC) (a b : Int) (k : Nat) (aP : Option Addr) (cP : Nat) (aL : Option Addr) (cL : Nat) (ab off : Nat) (cO : Nat) (W : World) (hk : k < p.ops.length) (_hm : p.ops.length ≤ 1000000) (r0 : W.cell? ⟨ab, off + k * 3, none⟩ = some (.int .u8 2)) (r1 : W.cell? ⟨ab, off + k * 3 + 1, none⟩ = some (.int .i64 a)) (r2 : W.cell? ⟨ab, off + k * 3 + 2, none⟩ = some (.int .i64 b)) : Calls Try.prog 43 #[prgV p aP cP aL cL (some ⟨ab, off, none⟩) cO, .int .i64 (k : Int)] W fun e w' => e = .returned (.bool (mayC p ⟨2, a, b⟩ k)) ∧ Below W.heap.size W w' := by
  have E : mayC p ⟨2, a, b⟩ k = (naC a p.cnt && naC b (p.ops.length : Int)) := by simp [mayC, letsC]
  rw [E]
  clear E
  have N1 : Hid (∀ U, Calls Try.prog 68 #[.int .i64 a, .int .i64 p.cnt] U fun e w' => e = .returned (.bool (naC a p.cnt)) ∧ w' = U) := fun U => rpart_any _ _ U
  have N2 : Hid (∀ U, Calls Try.prog 68 #[.int .i64 b, .int .i64 (p.ops.length : Int)] U fun e w' => e = .returned (.bool (naC b (p.ops.length : Int))) ∧ w' = U) := fun U => rpart_any _ _ U
  generalize naC b (p.ops.length : Int) = y at *
  generalize naC a p.cnt = x at *
  unfold prgV
  have hki : (k : Int) < (p.ops.length : Int) := by omega
  generalize p.parts.length = nP at *
  generalize p.lines.length = nL at *
  generalize p.ops.length = nO at *
  cases x with
  | false =>
    rw [Bool.false_and]
    have c0 := (Below.refl W.heap.size W).alloc (Nat.le_refl _) (.cells #[.int .i64 p.mem, .int .i64 p.cnt, .int .i64 p.ins, .int .i64 p.outs, .slice aP nP cP, .slice aL nL cL, .slice (some ⟨ab, off, none⟩) nO cO] 26)
    have G0 := hiddenC (blkA_new 26 W #[.int .i64 p.mem, .int .i64 p.cnt, .int .i64 p.ins, .int .i64 p.outs, .slice aP nP cP, .slice aL nL cL, .slice (some ⟨ab, off, none⟩) nO cO])
    have B0 := hiddenC c0
    have s0 := cellC_later c0 r0
    have s1 := cellC_later c0 r1
    have s2 := cellC_later c0 r2
    clear c0 r0 r1 r2
    go_enter Try.func43, Try.ntmps43
    go_upto_region 1 with fail
    generalize W.alloc (.cells #[.int .i64 p.mem, .int .i64 p.cnt, .int .i64 p.ins, .int .i64 p.outs, .slice aP nP cP, .slice aL nL cL, .slice (some ⟨ab, off, none⟩) nO cO] 26) = W1 at *
    have z0 := G0.out.cell (k := 0) rfl
    have z1 := G0.out.cell (k := 1) rfl
    have z2 := G0.out.cell (k := 2) rfl
    have z3 := G0.out.cell (k := 3) rfl
    have z4 := G0.out.cell (k := 4) rfl
    have z5 := G0.out.cell (k := 5) rfl
    have z6 := G0.out.cell (k := 6) rfl
    simp only [List.getElem_toArray, List.getElem_cons_zero, List.getElem_cons_succ] at z0 z1 z2 z3 z4 z5 z6
    have c1 := (Below.refl W1.heap.size W1).alloc (Nat.le_refl _) (.cells #[.int .u8 2, .int .i64 a, .int .i64 b] 53)
    have G1 := hiddenC (G0.out.below c1)
    have B1 := hiddenC (B0.out.trans (c1.mono B0.out.size))
    have g1 := blkA_new 53 W1 #[.int .u8 2, .int .i64 a, .int .i64 b]
    go_upto_region 2 with fail
    generalize W1.alloc (.cells #[.int .u8 2, .int .i64 a, .int .i64 b] 53) = W2 at *
    have o0 := g1.cell (k := 0) rfl
    have o1 := g1.cell (k := 1) rfl
    have o2 := g1.cell (k := 2) rfl
    simp only [List.getElem_toArray, List.getElem_cons_zero, List.getElem_cons_succ] at o0 o1 o2
    clear c1 g1 z0 z1 z2 z3 z4 z5 z6 s0 s1 s2
    have z0 := G1.out.cell (k := 0) rfl
    have z1 := G1.out.cell (k := 1) rfl
    have z2 := G1.out.cell (k := 2) rfl
    have z3 := G1.out.cell (k := 3) rfl
    have z4 := G1.out.cell (k := 4) rfl
    have z5 := G1.out.cell (k := 5) rfl
    have z6 := G1.out.cell (k := 6) rfl
    simp only [List.getElem_toArray, List.getElem_cons_zero, List.getElem_cons_succ] at z0 z1 z2 z3 z4 z5 z6
    go_wp2_with (first
      | (go_at_call 68; (with_reducible refine (N2.out _).mono ?_); rintro e w' ⟨rfl, hw'⟩; rw [hw']; clear hw' w')
      | (go_at_call 68; (with_reducible refine (N1.out _).mono ?_); rintro e w' ⟨rfl, hw'⟩; rw [hw']; clear hw' w'))
    go_ret
    exact ⟨rfl, B1.out⟩
  | true =>
    rw [Bool.true_and]
    have c0 := (Below.refl W.heap.size W).alloc (Nat.le_refl _) (.cells #[.int .i64 p.mem, .int .i64 p.cnt, .int .i64 p.ins, .int .i64 p.outs, .slice aP nP cP, .slice aL nL cL, .slice (some ⟨ab, off, none⟩) nO cO] 26)
    have G0 := hiddenC (blkA_new 26 W #[.int .i64 p.mem, .int .i64 p.cnt, .int .i64 p.ins, .int .i64 p.outs, .slice aP nP cP, .slice aL nL cL, .slice (some ⟨ab, off, none⟩) nO cO])
    have B0 := hiddenC c0
    have s0 := cellC_later c0 r0
    have s1 := cellC_later c0 r1
    have s2 := cellC_later c0 r2
    clear c0 r0 r1 r2
    go_enter Try.func43, Try.ntmps43
    go_upto_region 1 with fail
    generalize W.alloc (.cells #[.int .i64 p.mem, .int .i64 p.cnt, .int .i64 p.ins, .int .i64 p.outs, .slice aP nP cP, .slice aL nL cL, .slice (some ⟨ab, off, none⟩) nO cO] 26) = W1 at *
    have z0 := G0.out.cell (k := 0) rfl
    have z1 := G0.out.cell (k := 1) rfl
    have z2 := G0.out.cell (k := 2) rfl
    have z3 := G0.out.cell (k := 3) rfl
    have z4 := G0.out.cell (k := 4) rfl
    have z5 := G0.out.cell (k := 5) rfl
    have z6 := G0.out.cell (k := 6) rfl
    simp only [List.getElem_toArray, List.getElem_cons_zero, List.getElem_cons_succ] at z0 z1 z2 z3 z4 z5 z6
    have c1 := (Below.refl W1.heap.size W1).alloc (Nat.le_refl _) (.cells #[.int .u8 2, .int .i64 a, .int .i64 b] 53)
    have G1 := hiddenC (G0.out.below c1)
    have B1 := hiddenC (B0.out.trans (c1.mono B0.out.size))
    have g1 := blkA_new 53 W1 #[.int .u8 2, .int .i64 a, .int .i64 b]
    go_upto_region 2 with fail
    generalize W1.alloc (.cells #[.int .u8 2, .int .i64 a, .int .i64 b] 53) = W2 at *
    have o0 := g1.cell (k := 0) rfl
    have o1 := g1.cell (k := 1) rfl
    have o2 := g1.cell (k := 2) rfl
    simp only [List.getElem_toArray, List.getElem_cons_zero, List.getElem_cons_succ] at o0 o1 o2
    clear c1 g1 z0 z1 z2 z3 z4 z5 z6 s0 s1 s2
    have z0 := G1.out.cell (k := 0) rfl
    have z1 := G1.out.cell (k := 1) rfl
    have z2 := G1.out.cell (k := 2) rfl
    have z3 := G1.out.cell (k := 3) rfl
    have z4 := G1.out.cell (k := 4) rfl
    have z5 := G1.out.cell (k := 5) rfl
    have z6 := G1.out.cell (k := 6) rfl
    simp only [List.getElem_toArray, List.getElem_cons_zero, List.getElem_cons_succ] at z0 z1 z2 z3 z4 z5 z6
    go_wp2_with (first
      | (go_at_call 68; (with_reducible refine (N2.out _).mono ?_); rintro e w' ⟨rfl, hw'⟩; rw [hw']; clear hw' w')
      | (go_at_call 68; (with_reducible refine (N1.out _).mono ?_); rintro e w' ⟨rfl, hw'⟩; rw [hw']; clear hw' w'))
    go_ret
    exact ⟨rfl, B1.out⟩
set_option maxRecDepth 100000 in
set_option maxHeartbeats 2000000 in
theorem rallow_3 (p : PrgC) (a b : Int) (k : Nat) (aP : Option Addr) (cP : Nat) (aL : Option Addr) (cL : Nat) (ab off : Nat) (cO : Nat) (W : World) (hk : k < p.ops.length) (_hm : p.ops.length ≤ 1000000) (r0 : W.cell? ⟨ab, off + k * 3, none⟩ = some (.int .u8 3)) (r1 : W.cell? ⟨ab, off + k * 3 + 1, none⟩ = some (.int .i64 a)) (r2 : W.cell? ⟨ab, off + k * 3 + 2, none⟩ = some (.int .i64 b)) : Calls Try.prog 43 #[prgV p aP cP aL cL (some ⟨ab, off, none⟩) cO, .int .i64 (k : Int)] W fun e w' => e = .returned (.bool (mayC p ⟨3, a, b⟩ k)) ∧ Below W.heap.size W w' := by
  have E : mayC p ⟨3, a, b⟩ k = (naC a (p.lines.length : Int) && wiC b 1 64) := by simp [mayC, letsC]
  rw [E]
  clear E
  have N1 : Hid (∀ U, Calls Try.prog 68 #[.int .i64 a, .int .i64 (p.lines.length : Int)] U fun e w' => e = .returned (.bool (naC a (p.lines.length : Int))) ∧ w' = U) := fun U => rpart_any _ _ U
  have N2 : Hid (∀ U, Calls Try.prog 69 #[.int .i64 b, .int .i64 64] U fun e w' => e = .returned (.bool (wiC b 1 64)) ∧ w' = U) := fun U => rcount_any _ _ U
  generalize wiC b 1 64 = y at *
  generalize naC a (p.lines.length : Int) = x at *
  unfold prgV
  have hki : (k : Int) < (p.ops.length : Int) := by omega
  generalize p.parts.length = nP at *
  generalize p.lines.length = nL at *
  generalize p.ops.length = nO at *
  cases x with
  | false =>
    rw [Bool.false_and]
    have c0 := (Below.refl W.heap.size W).alloc (Nat.le_refl _) (.cells #[.int .i64 p.mem, .int .i64 p.cnt, .int .i64 p.ins, .int .i64 p.outs, .slice aP nP cP, .slice aL nL cL, .slice (some ⟨ab, off, none⟩) nO cO] 26)
    have G0 := hiddenC (blkA_new 26 W #[.int .i64 p.mem, .int .i64 p.cnt, .int .i64 p.ins, .int .i64 p.outs, .slice aP nP cP, .slice aL nL cL, .slice (some ⟨ab, off, none⟩) nO cO])
    have B0 := hiddenC c0
    have s0 := cellC_later c0 r0
    have s1 := cellC_later c0 r1
    have s2 := cellC_later c0 r2
    clear c0 r0 r1 r2
    go_enter Try.func43, Try.ntmps43
    go_upto_region 1 with fail
    generalize W.alloc (.cells #[.int .i64 p.mem, .int .i64 p.cnt, .int .i64 p.ins, .int .i64 p.outs, .slice aP nP cP, .slice aL nL cL, .slice (some ⟨ab, off, none⟩) nO cO] 26) = W1 at *
    have z0 := G0.out.cell (k := 0) rfl
    have z1 := G0.out.cell (k := 1) rfl
    have z2 := G0.out.cell (k := 2) rfl
    have z3 := G0.out.cell (k := 3) rfl
    have z4 := G0.out.cell (k := 4) rfl
    have z5 := G0.out.cell (k := 5) rfl
    have z6 := G0.out.cell (k := 6) rfl
    simp only [List.getElem_toArray, List.getElem_cons_zero, List.getElem_cons_succ] at z0 z1 z2 z3 z4 z5 z6
    have c1 := (Below.refl W1.heap.size W1).alloc (Nat.le_refl _) (.cells #[.int .u8 3, .int .i64 a, .int .i64 b] 53)
    have G1 := hiddenC (G0.out.below c1)
    have B1 := hiddenC (B0.out.trans (c1.mono B0.out.size))
    have g1 := blkA_new 53 W1 #[.int .u8 3, .int .i64 a, .int .i64 b]
    go_upto_region 2 with fail
    generalize W1.alloc (.cells #[.int .u8 3, .int .i64 a, .int .i64 b] 53) = W2 at *
    have o0 := g1.cell (k := 0) rfl
    have o1 := g1.cell (k := 1) rfl
    have o2 := g1.cell (k := 2) rfl
    simp only [List.getElem_toArray, List.getElem_cons_zero, List.getElem_cons_succ] at o0 o1 o2
    clear c1 g1 z0 z1 z2 z3 z4 z5 z6 s0 s1 s2
    have z0 := G1.out.cell (k := 0) rfl
    have z1 := G1.out.cell (k := 1) rfl
    have z2 := G1.out.cell (k := 2) rfl
    have z3 := G1.out.cell (k := 3) rfl
    have z4 := G1.out.cell (k := 4) rfl
    have z5 := G1.out.cell (k := 5) rfl
    have z6 := G1.out.cell (k := 6) rfl
    simp only [List.getElem_toArray, List.getElem_cons_zero, List.getElem_cons_succ] at z0 z1 z2 z3 z4 z5 z6
    go_wp2_with (first
      | (go_at_call 69; (with_reducible refine (N2.out _).mono ?_); rintro e w' ⟨rfl, hw'⟩; rw [hw']; clear hw' w')
      | (go_at_call 68; (with_reducible refine (N1.out _).mono ?_); rintro e w' ⟨rfl, hw'⟩; rw [hw']; clear hw' w'))
    go_ret
    exact ⟨rfl, B1.out⟩
  | true =>
    rw [Bool.true_and]
    have c0 := (Below.refl W.heap.size W).alloc (Nat.le_refl _) (.cells #[.int .i64 p.mem, .int .i64 p.cnt, .int .i64 p.ins, .int .i64 p.outs, .slice aP nP cP, .slice aL nL cL, .slice (some ⟨ab, off, none⟩) nO cO] 26)
    have G0 := hiddenC (blkA_new 26 W #[.int .i64 p.mem, .int .i64 p.cnt, .int .i64 p.ins, .int .i64 p.outs, .slice aP nP cP, .slice aL nL cL, .slice (some ⟨ab, off, none⟩) nO cO])
    have B0 := hiddenC c0
    have s0 := cellC_later c0 r0
    have s1 := cellC_later c0 r1
    have s2 := cellC_later c0 r2
    clear c0 r0 r1 r2
    go_enter Try.func43, Try.ntmps43
    go_upto_region 1 with fail
    generalize W.alloc (.cells #[.int .i64 p.mem, .int .i64 p.cnt, .int .i64 p.ins, .int .i64 p.outs, .slice aP nP cP, .slice aL nL cL, .slice (some ⟨ab, off, none⟩) nO cO] 26) = W1 at *
    have z0 := G0.out.cell (k := 0) rfl
    have z1 := G0.out.cell (k := 1) rfl
    have z2 := G0.out.cell (k := 2) rfl
    have z3 := G0.out.cell (k := 3) rfl
    have z4 := G0.out.cell (k := 4) rfl
    have z5 := G0.out.cell (k := 5) rfl
    have z6 := G0.out.cell (k := 6) rfl
    simp only [List.getElem_toArray, List.getElem_cons_zero, List.getElem_cons_succ] at z0 z1 z2 z3 z4 z5 z6
    have c1 := (Below.refl W1.heap.size W1).alloc (Nat.le_refl _) (.cells #[.int .u8 3, .int .i64 a, .int .i64 b] 53)
    have G1 := hiddenC (G0.out.below c1)
    have B1 := hiddenC (B0.out.trans (c1.mono B0.out.size))
    have g1 := blkA_new 53 W1 #[.int .u8 3, .int .i64 a, .int .i64 b]
    go_upto_region 2 with fail
    generalize W1.alloc (.cells #[.int .u8 3, .int .i64 a, .int .i64 b] 53) = W2 at *
    have o0 := g1.cell (k := 0) rfl
    have o1 := g1.cell (k := 1) rfl
    have o2 := g1.cell (k := 2) rfl
    simp only [List.getElem_toArray, List.getElem_cons_zero, List.getElem_cons_succ] at o0 o1 o2
    clear c1 g1 z0 z1 z2 z3 z4 z5 z6 s0 s1 s2
    have z0 := G1.out.cell (k := 0) rfl
    have z1 := G1.out.cell (k := 1) rfl
    have z2 := G1.out.cell (k := 2) rfl
    have z3 := G1.out.cell (k := 3) rfl
    have z4 := G1.out.cell (k := 4) rfl
    have z5 := G1.out.cell (k := 5) rfl
    have z6 := G1.out.cell (k := 6) rfl
    simp only [List.getElem_toArray, List.getElem_cons_zero, List.getElem_cons_succ] at z0 z1 z2 z3 z4 z5 z6
    go_wp2_with (first
      | (go_at_call 69; (with_reducible refine (N2.out _).mono ?_); rintro e w' ⟨rfl, hw'⟩; rw [hw']; clear hw' w')
      | (go_at_call 68; (with_reducible refine (N1.out _).mono ?_); rintro e w' ⟨rfl, hw'⟩; rw [hw']; clear hw' w'))
    go_ret
    exact ⟨rfl, B1.out⟩
set_option maxRecDepth 100000 in
set_option maxHeartbeats 2000000 in
theorem rallow_4 (p : PrgC) (a b : Int) (k : Nat) (aP : Option Addr) (cP : Nat) (aL : Option Addr) (cL : Nat) (ab off : Nat) (cO : Nat) (W : World) (hk : k < p.ops.length) (_hm : p.ops.length ≤ 1000000) (r0 : W.cell? ⟨ab, off + k * 3, none⟩ = some (.int .u8 4)) (r1 : W.cell? ⟨ab, off + k * 3 + 1, none⟩ = some (.int .i64 a)) (r2 : W.cell? ⟨ab, off + k * 3 + 2, none⟩ = some (.int .i64 b)) : Calls Try.prog 43 #[prgV p aP cP aL cL (some ⟨ab, off, none⟩) cO, .int .i64 (k : Int)] W fun e w' => e = .returned (.bool (mayC p ⟨4, a, b⟩ k)) ∧ Below W.heap.size W w' := by
  have E : mayC p ⟨4, a, b⟩ k = (naC a p.ins && wiC b 1 64) := by simp [mayC, letsC]
  rw [E]
  clear E
  have N1 : Hid (∀ U, Calls Try.prog 68 #[.int .i64 a, .int .i64 p.ins] U fun e w' => e = .returned (.bool (naC a p.ins)) ∧ w' = U) := fun U => rpart_any _ _ U
  have N2 : Hid (∀ U, Calls Try.prog 69 #[.int .i64 b, .int .i64 64] U fun e w' => e = .returned (.bool (wiC b 1 64)) ∧ w' = U) := fun U => rcount_any _ _ U
  generalize wiC b 1 64 = y at *
  generalize naC a p.ins = x at *
  unfold prgV
  have hki : (k : Int) < (p.ops.length : Int) := by omega
  generalize p.parts.length = nP at *
  generalize p.lines.length = nL at *
  generalize p.ops.length = nO at *
  cases x with
  | false =>
    rw [Bool.false_and]
    have c0 := (Below.refl W.heap.size W).alloc (Nat.le_refl _) (.cells #[.int .i64 p.mem, .int .i64 p.cnt, .int .i64 p.ins, .int .i64 p.outs, .slice aP nP cP, .slice aL nL cL, .slice (some ⟨ab, off, none⟩) nO cO] 26)
    have G0 := hiddenC (blkA_new 26 W #[.int .i64 p.mem, .int .i64 p.cnt, .int .i64 p.ins, .int .i64 p.outs, .slice aP nP cP, .slice aL nL cL, .slice (some ⟨ab, off, none⟩) nO cO])
    have B0 := hiddenC c0
    have s0 := cellC_later c0 r0
    have s1 := cellC_later c0 r1
    have s2 := cellC_later c0 r2
    clear c0 r0 r1 r2
    go_enter Try.func43, Try.ntmps43
    go_upto_region 1 with fail
    generalize W.alloc (.cells #[.int .i64 p.mem, .int .i64 p.cnt, .int .i64 p.ins, .int .i64 p.outs, .slice aP nP cP, .slice aL nL cL, .slice (some ⟨ab, off, none⟩) nO cO] 26) = W1 at *
    have z0 := G0.out.cell (k := 0) rfl
    have z1 := G0.out.cell (k := 1) rfl
    have z2 := G0.out.cell (k := 2) rfl
    have z3 := G0.out.cell (k := 3) rfl
    have z4 := G0.out.cell (k := 4) rfl
    have z5 := G0.out.cell (k := 5) rfl
    have z6 := G0.out.cell (k := 6) rfl
    simp only [List.getElem_toArray, List.getElem_cons_zero, List.getElem_cons_succ] at z0 z1 z2 z3 z4 z5 z6
    have c1 := (Below.refl W1.heap.size W1).alloc (Nat.le_refl _) (.cells #[.int .u8 4, .int .i64 a, .int .i64 b] 53)
    have G1 := hiddenC (G0.out.below c1)
    have B1 := hiddenC (B0.out.trans (c1.mono B0.out.size))
    have g1 := blkA_new 53 W1 #[.int .u8 4, .int .i64 a, .int .i64 b]
    go_upto_region 2 with fail
    generalize W1.alloc (.cells #[.int .u8 4, .int .i64 a, .int .i64 b] 53) = W2 at *
    have o0 := g1.cell (k := 0) rfl
    have o1 := g1.cell (k := 1) rfl
    have o2 := g1.cell (k := 2) rfl
    simp only [List.getElem_toArray, List.getElem_cons_zero, List.getElem_cons_succ] at o0 o1 o2
    clear c1 g1 z0 z1 z2 z3 z4 z5 z6 s0 s1 s2
    have z0 := G1.out.cell (k := 0) rfl
    have z1 := G1.out.cell (k := 1) rfl
    have z2 := G1.out.cell (k := 2) rfl
    have z3 := G1.out.cell (k := 3) rfl
    have z4 := G1.out.cell (k := 4) rfl
    have z5 := G1.out.cell (k := 5) rfl
    have z6 := G1.out.cell (k := 6) rfl
    simp only [List.getElem_toArray, List.getElem_cons_zero, List.getElem_cons_succ] at z0 z1 z2 z3 z4 z5 z6
    go_wp2_with (first
      | (go_at_call 69; (with_reducible refine (N2.out _).mono ?_); rintro e w' ⟨rfl, hw'⟩; rw [hw']; clear hw' w')
      | (go_at_call 68; (with_reducible refine (N1.out _).mono ?_); rintro e w' ⟨rfl, hw'⟩; rw [hw']; clear hw' w'))
    go_ret
    exact ⟨rfl, B1.out⟩
  | true =>
    rw [Bool.true_and]
    have c0 := (Below.refl W.heap.size W).alloc (Nat.le_refl _) (.cells #[.int .i64 p.mem, .int .i64 p.cnt, .int .i64 p.ins, .int .i64 p.outs, .slice aP nP cP, .slice aL nL cL, .slice (some ⟨ab, off, none⟩) nO cO] 26)
    have G0 := hiddenC (blkA_new 26 W #[.int .i64 p.mem, .int .i64 p.cnt, .int .i64 p.ins, .int .i64 p.outs, .slice aP nP cP, .slice aL nL cL, .slice (some ⟨ab, off, none⟩) nO cO])
    have B0 := hiddenC c0
    have s0 := cellC_later c0 r0
    have s1 := cellC_later c0 r1
    have s2 := cellC_later c0 r2
    clear c0 r0 r1 r2
    go_enter Try.func43, Try.ntmps43
    go_upto_region 1 with fail
    generalize W.alloc (.cells #[.int .i64 p.mem, .int .i64 p.cnt, .int .i64 p.ins, .int .i64 p.outs, .slice aP nP cP, .slice aL nL cL, .slice (some ⟨ab, off, none⟩) nO cO] 26) = W1 at *
    have z0 := G0.out.cell (k := 0) rfl
    have z1 := G0.out.cell (k := 1) rfl
    have z2 := G0.out.cell (k := 2) rfl
    have z3 := G0.out.cell (k := 3) rfl
    have z4 := G0.out.cell (k := 4) rfl
    have z5 := G0.out.cell (k := 5) rfl
    have z6 := G0.out.cell (k := 6) rfl
    simp only [List.getElem_toArray, List.getElem_cons_zero, List.getElem_cons_succ] at z0 z1 z2 z3 z4 z5 z6
    have c1 := (Below.refl W1.heap.size W1).alloc (Nat.le_refl _) (.cells #[.int .u8 4, .int .i64 a, .int .i64 b] 53)
    have G1 := hiddenC (G0.out.below c1)
    have B1 := hiddenC (B0.out.trans (c1.mono B0.out.size))
    have g1 := blkA_new 53 W1 #[.int .u8 4, .int .i64 a, .int .i64 b]
    go_upto_region 2 with fail
    generalize W1.alloc (.cells #[.int .u8 4, .int .i64 a, .int .i64 b] 53) = W2 at *
    have o0 := g1.cell (k := 0) rfl
    have o1 := g1.cell (k := 1) rfl
    have o2 := g1.cell (k := 2) rfl
    simp only [List.getElem_toArray, List.getElem_cons_zero, List.getElem_cons_succ] at o0 o1 o2
    clear c1 g1 z0 z1 z2 z3 z4 z5 z6 s0 s1 s2
    have z0 := G1.out.cell (k := 0) rfl
    have z1 := G1.out.cell (k := 1) rfl
    have z2 := G1.out.cell (k := 2) rfl
    have z3 := G1.out.cell (k := 3) rfl
    have z4 := G1.out.cell (k := 4) rfl
    have z5 := G1.out.cell (k := 5) rfl
    have z6 := G1.out.cell (k := 6) rfl
    simp only [List.getElem_toArray, List.getElem_cons_zero, List.getElem_cons_succ] at z0 z1 z2 z3 z4 z5 z6
    go_wp2_with (first
      | (go_at_call 69; (with_reducible refine (N2.out _).mono ?_); rintro e w' ⟨rfl, hw'⟩; rw [hw']; clear hw' w')
      | (go_at_call 68; (with_reducible refine (N1.out _).mono ?_); rintro e w' ⟨rfl, hw'⟩; rw [hw']; clear hw' w'))
    go_ret
    exact ⟨rfl, B1.out⟩
set_option maxRecDepth 100000 in
set_option maxHeartbeats 2000000 in
theorem rallow_5 (p : PrgC) (a b : Int) (k : Nat) (aP : Option Addr) (cP : Nat) (aL : Option Addr) (cL : Nat) (ab off : Nat) (cO : Nat) (W : World) (hk : k < p.ops.length) (_hm : p.ops.length ≤ 1000000) (r0 : W.cell? ⟨ab, off + k * 3, none⟩ = some (.int .u8 5)) (r1 : W.cell? ⟨ab, off + k * 3 + 1, none⟩ = some (.int .i64 a)) (r2 : W.cell? ⟨ab, off + k * 3 + 2, none⟩ = some (.int .i64 b)) : Calls Try.prog 43 #[prgV p aP cP aL cL (some ⟨ab, off, none⟩) cO, .int .i64 (k : Int)] W fun e w' => e = .returned (.bool (mayC p ⟨5, a, b⟩ k)) ∧ Below W.heap.size W w' := by
  have E : mayC p ⟨5, a, b⟩ k = (naC a (p.parts.length : Int) && decide (b = 0)) := by simp [mayC, letsC]
  rw [E]
  clear E
  have N1 : Hid (∀ U, Calls Try.prog 68 #[.int .i64 a, .int .i64 (p.parts.length : Int)] U fun e w' => e = .returned (.bool (naC a (p.parts.length : Int))) ∧ w' = U) := fun U => rpart_any _ _ U
  generalize naC a (p.parts.length : Int) = x at *
  unfold prgV
  have hki : (k : Int) < (p.ops.length : Int) := by omega
  generalize p.parts.length = nP at *
  generalize p.lines.length = nL at *
  generalize p.ops.length = nO at *
  cases x with
  | false =>
    rw [Bool.false_and]
    have c0 := (Below.refl W.heap.size W).alloc (Nat.le_refl _) (.cells #[.int .i64 p.mem, .int .i64 p.cnt, .int .i64 p.ins, .int .i64 p.outs, .slice aP nP cP, .slice aL nL cL, .slice (some ⟨ab, off, none⟩) nO cO] 26)
    have G0 := hiddenC (blkA_new 26 W #[.int .i64 p.mem, .int .i64 p.cnt, .int .i64 p.ins, .int .i64 p.outs, .slice aP nP cP, .slice aL nL cL, .slice (some ⟨ab, off, none⟩) nO cO])
    have B0 := hiddenC c0
    have s0 := cellC_later c0 r0
    have s1 := cellC_later c0 r1
    have s2 := cellC_later c0 r2
    clear c0 r0 r1 r2
    go_enter Try.func43, Try.ntmps43
    go_upto_region 1 with fail
    generalize W.alloc (.cells #[.int .i64 p.mem, .int .i64 p.cnt, .int .i64 p.ins, .int .i64 p.outs, .slice aP nP cP, .slice aL nL cL, .slice (some ⟨ab, off, none⟩) nO cO] 26) = W1 at *
    have z0 := G0.out.cell (k := 0) rfl
    have z1 := G0.out.cell (k := 1) rfl
    have z2 := G0.out.cell (k := 2) rfl
    have z3 := G0.out.cell (k := 3) rfl
    have z4 := G0.out.cell (k := 4) rfl
    have z5 := G0.out.cell (k := 5) rfl
    have z6 := G0.out.cell (k := 6) rfl
    simp only [List.getElem_toArray, List.getElem_cons_zero, List.getElem_cons_succ] at z0 z1 z2 z3 z4 z5 z6
    have c1 := (Below.refl W1.heap.size W1).alloc (Nat.le_refl _) (.cells #[.int .u8 5, .int .i64 a, .int .i64 b] 53)
    have G1 := hiddenC (G0.out.below c1)
    have B1 := hiddenC (B0.out.trans (c1.mono B0.out.size))
    have g1 := blkA_new 53 W1 #[.int .u8 5, .int .i64 a, .int .i64 b]
    go_upto_region 2 with fail
    generalize W1.alloc (.cells #[.int .u8 5, .int .i64 a, .int .i64 b] 53) = W2 at *
    have o0 := g1.cell (k := 0) rfl
    have o1 := g1.cell (k := 1) rfl
    have o2 := g1.cell (k := 2) rfl
    simp only [List.getElem_toArray, List.getElem_cons_zero, List.getElem_cons_succ] at o0 o1 o2
    clear c1 g1 z0 z1 z2 z3 z4 z5 z6 s0 s1 s2
    have z0 := G1.out.cell (k := 0) rfl
    have z1 := G1.out.cell (k := 1) rfl
    have z2 := G1.out.cell (k := 2) rfl
    have z3 := G1.out.cell (k := 3) rfl
    have z4 := G1.out.cell (k := 4) rfl
    have z5 := G1.out.cell (k := 5) rfl
    have z6 := G1.out.cell (k := 6) rfl
    simp only [List.getElem_toArray, List.getElem_cons_zero, List.getElem_cons_succ] at z0 z1 z2 z3 z4 z5 z6
    go_wp2_with (first
      | (go_at_call 68; (with_reducible refine (N1.out _).mono ?_); rintro e w' ⟨rfl, hw'⟩; rw [hw']; clear hw' w'))
    go_ret
    exact ⟨rfl, B1.out⟩
  | true =>
    rw [Bool.true_and]
    by_cases hb : b = 0
    · subst hb
      rw [decide_eq_true rfl]
      have c0 := (Below.refl W.heap.size W).alloc (Nat.le_refl _) (.cells #[.int .i64 p.mem, .int .i64 p.cnt, .int .i64 p.ins, .int .i64 p.outs, .slice aP nP cP, .slice aL nL cL, .slice (some ⟨ab, off, none⟩) nO cO] 26)
      have G0 := hiddenC (blkA_new 26 W #[.int .i64 p.mem, .int .i64 p.cnt, .int .i64 p.ins, .int .i64 p.outs, .slice aP nP cP, .slice aL nL cL, .slice (some ⟨ab, off, none⟩) nO cO])
      have B0 := hiddenC c0
      have s0 := cellC_later c0 r0
      have s1 := cellC_later c0 r1
      have s2 := cellC_later c0 r2
      clear c0 r0 r1 r2
      go_enter Try.func43, Try.ntmps43
      go_upto_region 1 with fail
      generalize W.alloc (.cells #[.int .i64 p.mem, .int .i64 p.cnt, .int .i64 p.ins, .int .i64 p.outs, .slice aP nP cP, .slice aL nL cL, .slice (some ⟨ab, off, none⟩) nO cO] 26) = W1 at *
      have z0 := G0.out.cell (k := 0) rfl
      have z1 := G0.out.cell (k := 1) rfl
      have z2 := G0.out.cell (k := 2) rfl
      have z3 := G0.out.cell (k := 3) rfl
      have z4 := G0.out.cell (k := 4) rfl
      have z5 := G0.out.cell (k := 5) rfl
      have z6 := G0.out.cell (k := 6) rfl
      simp only [List.getElem_toArray, List.getElem_cons_zero, List.getElem_cons_succ] at z0 z1 z2 z3 z4 z5 z6
      have c1 := (Below.refl W1.heap.size W1).alloc (Nat.le_refl _) (.cells #[.int .u8 5, .int .i64 a, .int .i64 0] 53)
      have G1 := hiddenC (G0.out.below c1)
      have B1 := hiddenC (B0.out.trans (c1.mono B0.out.size))
      have g1 := blkA_new 53 W1 #[.int .u8 5, .int .i64 a, .int .i64 0]
      go_upto_region 2 with fail
      generalize W1.alloc (.cells #[.int .u8 5, .int .i64 a, .int .i64 0] 53) = W2 at *
      have o0 := g1.cell (k := 0) rfl
      have o1 := g1.cell (k := 1) rfl
      have o2 := g1.cell (k := 2) rfl
      simp only [List.getElem_toArray, List.getElem_cons_zero, List.getElem_cons_succ] at o0 o1 o2
      clear c1 g1 z0 z1 z2 z3 z4 z5 z6 s0 s1 s2
      have z0 := G1.out.cell (k := 0) rfl
      have z1 := G1.out.cell (k := 1) rfl
      have z2 := G1.out.cell (k := 2) rfl
      have z3 := G1.out.cell (k := 3) rfl
      have z4 := G1.out.cell (k := 4) rfl
      have z5 := G1.out.cell (k := 5) rfl
      have z6 := G1.out.cell (k := 6) rfl
      simp only [List.getElem_toArray, List.getElem_cons_zero, List.getElem_cons_succ] at z0 z1 z2 z3 z4 z5 z6
      go_wp2_with (first
        | (go_at_call 68; (with_reducible refine (N1.out _).mono ?_); rintro e w' ⟨rfl, hw'⟩; rw [hw']; clear hw' w'))
      go_ret
      exact ⟨rfl, B1.out⟩
    · rw [decide_eq_false hb]
      have qb : (b == 0) = false := by simpa using hb
      have c0 := (Below.refl W.heap.size W).alloc (Nat.le_refl _) (.cells #[.int .i64 p.mem, .int .i64 p.cnt, .int .i64 p.ins, .int .i64 p.outs, .slice aP nP cP, .slice aL nL cL, .slice (some ⟨ab, off, none⟩) nO cO] 26)
      have G0 := hiddenC (blkA_new 26 W #[.int .i64 p.mem, .int .i64 p.cnt, .int .i64 p.ins, .int .i64 p.outs, .slice aP nP cP, .slice aL nL cL, .slice (some ⟨ab, off, none⟩) nO cO])
      have B0 := hiddenC c0
      have s0 := cellC_later c0 r0
      have s1 := cellC_later c0 r1
      have s2 := cellC_later c0 r2
      clear c0 r0 r1 r2
      go_enter Try.func43, Try.ntmps43
      go_upto_region 1 with fail
      generalize W.alloc (.cells #[.int .i64 p.mem, .int .i64 p.cnt, .int .i64 p.ins, .int .i64 p.outs, .slice aP nP cP, .slice aL nL cL, .slice (some ⟨ab, off, none⟩) nO cO] 26) = W1 at *
      have z0 := G0.out.cell (k := 0) rfl
      have z1 := G0.out.cell (k := 1) rfl
      have z2 := G0.out.cell (k := 2) rfl
      have z3 := G0.out.cell (k := 3) rfl
      have z4 := G0.out.cell (k := 4) rfl
      have z5 := G0.out.cell (k := 5) rfl
      have z6 := G0.out.cell (k := 6) rfl
      simp only [List.getElem_toArray, List.getElem_cons_zero, List.getElem_cons_succ] at z0 z1 z2 z3 z4 z5 z6
      have c1 := (Below.refl W1.heap.size W1).alloc (Nat.le_refl _) (.cells #[.int .u8 5, .int .i64 a, .int .i64 b] 53)
      have G1 := hiddenC (G0.out.below c1)
      have B1 := hiddenC (B0.out.trans (c1.mono B0.out.size))
      have g1 := blkA_new 53 W1 #[.int .u8 5, .int .i64 a, .int .i64 b]
      go_upto_region 2 with fail
      generalize W1.alloc (.cells #[.int .u8 5, .int .i64 a, .int .i64 b] 53) = W2 at *
      have o0 := g1.cell (k := 0) rfl
      have o1 := g1.cell (k := 1) rfl
      have o2 := g1.cell (k := 2) rfl
      simp only [List.getElem_toArray, List.getElem_cons_zero, List.getElem_cons_succ] at o0 o1 o2
      clear c1 g1 z0 z1 z2 z3 z4 z5 z6 s0 s1 s2
      have z0 := G1.out.cell (k := 0) rfl
      have z1 := G1.out.cell (k := 1) rfl
      have z2 := G1.out.cell (k := 2) rfl
      have z3 := G1.out.cell (k := 3) rfl
      have z4 := G1.out.cell (k := 4) rfl
      have z5 := G1.out.cell (k := 5) rfl
      have z6 := G1.out.cell (k := 6) rfl
      simp only [List.getElem_toArray, List.getElem_cons_zero, List.getElem_cons_succ] at z0 z1 z2 z3 z4 z5 z6
      go_wp2_with (first
        | (go_at_call 68; (with_reducible refine (N1.out _).mono ?_); rintro e w' ⟨rfl, hw'⟩; rw [hw']; clear hw' w'))
      go_ret
      exact ⟨rfl, B1.out⟩
set_option maxRecDepth 100000 in
set_option maxHeartbeats 2000000 in
theorem rallow_6 (p : PrgC) (a b : Int) (k : Nat) (aP : Option Addr) (cP : Nat) (aL : Option Addr) (cL : Nat) (ab off : Nat) (cO : Nat) (W : World) (hk : k < p.ops.length) (_hm : p.ops.length ≤ 1000000) (r0 : W.cell? ⟨ab, off + k * 3, none⟩ = some (.int .u8 6)) (r1 : W.cell? ⟨ab, off + k * 3 + 1, none⟩ = some (.int .i64 a)) (r2 : W.cell? ⟨ab, off + k * 3 + 2, none⟩ = some (.int .i64 b)) : Calls Try.prog 43 #[prgV p aP cP aL cL (some ⟨ab, off, none⟩) cO, .int .i64 (k : Int)] W fun e w' => e = .returned (.bool (mayC p ⟨6, a, b⟩ k)) ∧ Below W.heap.size W w' := by
  have E : mayC p ⟨6, a, b⟩ k = (naC a (p.lines.length : Int) && wiC b 1 64) := by simp [mayC, letsC]
  rw [E]
  clear E
  have N1 : Hid (∀ U, Calls Try.prog 68 #[.int .i64 a, .int .i64 (p.lines.length : Int)] U fun e w' => e = .returned (.bool (naC a (p.lines.length : Int))) ∧ w' = U) := fun U => rpart_any _ _ U
  have N2 : Hid (∀ U, Calls Try.prog 69 #[.int .i64 b, .int .i64 64] U fun e w' => e = .returned (.bool (wiC b 1 64)) ∧ w' = U) := fun U => rcount_any _ _ U
  generalize wiC b 1 64 = y at *
  generalize naC a (p.lines.length : Int) = x at *
  unfold prgV
  have hki : (k : Int) < (p.ops.length : Int) := by omega
  generalize p.parts.length = nP at *
  generalize p.lines.length = nL at *
  generalize p.ops.length = nO at *
  cases x with
  | false =>
    rw [Bool.false_and]
    have c0 := (Below.refl W.heap.size W).alloc (Nat.le_refl _) (.cells #[.int .i64 p.mem, .int .i64 p.cnt, .int .i64 p.ins, .int .i64 p.outs, .slice aP nP cP, .slice aL nL cL, .slice (some ⟨ab, off, none⟩) nO cO] 26)
    have G0 := hiddenC (blkA_new 26 W #[.int .i64 p.mem, .int .i64 p.cnt, .int .i64 p.ins, .int .i64 p.outs, .slice aP nP cP, .slice aL nL cL, .slice (some ⟨ab, off, none⟩) nO cO])
    have B0 := hiddenC c0
    have s0 := cellC_later c0 r0
    have s1 := cellC_later c0 r1
    have s2 := cellC_later c0 r2
    clear c0 r0 r1 r2
    go_enter Try.func43, Try.ntmps43
    go_upto_region 1 with fail
    generalize W.alloc (.cells #[.int .i64 p.mem, .int .i64 p.cnt, .int .i64 p.ins, .int .i64 p.outs, .slice aP nP cP, .slice aL nL cL, .slice (some ⟨ab, off, none⟩) nO cO] 26) = W1 at *
    have z0 := G0.out.cell (k := 0) rfl
    have z1 := G0.out.cell (k := 1) rfl
    have z2 := G0.out.cell (k := 2) rfl
    have z3 := G0.out.cell (k := 3) rfl
    have z4 := G0.out.cell (k := 4) rfl
    have z5 := G0.out.cell (k := 5) rfl
    have z6 := G0.out.cell (k := 6) rfl
    simp only [List.getElem_toArray, List.getElem_cons_zero, List.getElem_cons_succ] at z0 z1 z2 z3 z4 z5 z6
    have c1 := (Below.refl W1.heap.size W1).alloc (Nat.le_refl _) (.cells #[.int .u8 6, .int .i64 a, .int .i64 b] 53)
    have G1 := hiddenC (G0.out.below c1)
    have B1 := hiddenC (B0.out.trans (c1.mono B0.out.size))
    have g1 := blkA_new 53 W1 #[.int .u8 6, .int .i64 a, .int .i64 b]
    go_upto_region 2 with fail
    generalize W1.alloc (.cells #[.int .u8 6, .int .i64 a, .int .i64 b] 53) = W2 at *
    have o0 := g1.cell (k := 0) rfl
    have o1 := g1.cell (k := 1) rfl
    have o2 := g1.cell (k := 2) rfl
    simp only [List.getElem_toArray, List.getElem_cons_zero, List.getElem_cons_succ] at o0 o1 o2
    clear c1 g1 z0 z1 z2 z3 z4 z5 z6 s0 s1 s2
    have z0 := G1.out.cell (k := 0) rfl
    have z1 := G1.out.cell (k := 1) rfl
    have z2 := G1.out.cell (k := 2) rfl
    have z3 := G1.out.cell (k := 3) rfl
    have z4 := G1.out.cell (k := 4) rfl
    have z5 := G1.out.cell (k := 5) rfl
    have z6 := G1.out.cell (k := 6) rfl
    simp only [List.getElem_toArray, List.getElem_cons_zero, List.getElem_cons_succ] at z0 z1 z2 z3 z4 z5 z6
    go_wp2_with (first
      | (go_at_call 69; (with_reducible refine (N2.out _).mono ?_); rintro e w' ⟨rfl, hw'⟩; rw [hw']; clear hw' w')
      | (go_at_call 68; (with_reducible refine (N1.out _).mono ?_); rintro e w' ⟨rfl, hw'⟩; rw [hw']; clear hw' w'))
    go_ret
    exact ⟨rfl, B1.out⟩
  | true =>
    rw [Bool.true_and]
    have c0 := (Below.refl W.heap.size W).alloc (Nat.le_refl _) (.cells #[.int .i64 p.mem, .int .i64 p.cnt, .int .i64 p.ins, .int .i64 p.outs, .slice aP nP cP, .slice aL nL cL, .slice (some ⟨ab, off, none⟩) nO cO] 26)
    have G0 := hiddenC (blkA_new 26 W #[.int .i64 p.mem, .int .i64 p.cnt, .int .i64 p.ins, .int .i64 p.outs, .slice aP nP cP, .slice aL nL cL, .slice (some ⟨ab, off, none⟩) nO cO])
    have B0 := hiddenC c0
    have s0 := cellC_later c0 r0
    have s1 := cellC_later c0 r1
    have s2 := cellC_later c0 r2
    clear c0 r0 r1 r2
    go_enter Try.func43, Try.ntmps43
    go_upto_region 1 with fail
    generalize W.alloc (.cells #[.int .i64 p.mem, .int .i64 p.cnt, .int .i64 p.ins, .int .i64 p.outs, .slice aP nP cP, .slice aL nL cL, .slice (some ⟨ab, off, none⟩) nO cO] 26) = W1 at *
    have z0 := G0.out.cell (k := 0) rfl
    have z1 := G0.out.cell (k := 1) rfl
    have z2 := G0.out.cell (k := 2) rfl
    have z3 := G0.out.cell (k := 3) rfl
    have z4 := G0.out.cell (k := 4) rfl
    have z5 := G0.out.cell (k := 5) rfl
    have z6 := G0.out.cell (k := 6) rfl
    simp only [List.getElem_toArray, List.getElem_cons_zero, List.getElem_cons_succ] at z0 z1 z2 z3 z4 z5 z6
    have c1 := (Below.refl W1.heap.size W1).alloc (Nat.le_refl _) (.cells #[.int .u8 6, .int .i64 a, .int .i64 b] 53)
    have G1 := hiddenC (G0.out.below c1)
    have B1 := hiddenC (B0.out.trans (c1.mono B0.out.size))
    have g1 := blkA_new 53 W1 #[.int .u8 6, .int .i64 a, .int .i64 b]
    go_upto_region 2 with fail
    generalize W1.alloc (.cells #[.int .u8 6, .int .i64 a, .int .i64 b] 53) = W2 at *
    have o0 := g1.cell (k := 0) rfl
    have o1 := g1.cell (k := 1) rfl
    have o2 := g1.cell (k := 2) rfl
    simp only [List.getElem_toArray, List.getElem_cons_zero, List.getElem_cons_succ] at o0 o1 o2
    clear c1 g1 z0 z1 z2 z3 z4 z5 z6 s0 s1 s2
    have z0 := G1.out.cell (k := 0) rfl
    have z1 := G1.out.cell (k := 1) rfl
    have z2 := G1.out.cell (k := 2) rfl
    have z3 := G1.out.cell (k := 3) rfl
    have z4 := G1.out.cell (k := 4) rfl
    have z5 := G1.out.cell (k := 5) rfl
    have z6 := G1.out.cell (k := 6) rfl
    simp only [List.getElem_toArray, List.getElem_cons_zero, List.getElem_cons_succ] at z0 z1 z2 z3 z4 z5 z6
    go_wp2_with (first
      | (go_at_call 69; (with_reducible refine (N2.out _).mono ?_); rintro e w' ⟨rfl, hw'⟩; rw [hw']; clear hw' w')
      | (go_at_call 68; (with_reducible refine (N1.out _).mono ?_); rintro e w' ⟨rfl, hw'⟩; rw [hw']; clear hw' w'))
    go_ret
    exact ⟨rfl, B1.out⟩
set_option maxRecDepth 100000 in
set_option maxHeartbeats 2000000 in
theorem rallow_7 (p : PrgC) (a b : Int) (k : Nat) (aP : Option Addr) (cP : Nat) (aL : Option Addr) (cL : Nat) (ab off : Nat) (cO : Nat) (W : World) (hk : k < p.ops.length) (_hm : p.ops.length ≤ 1000000) (r0 : W.cell? ⟨ab, off + k * 3, none⟩ = some (.int .u8 7)) (r1 : W.cell? ⟨ab, off + k * 3 + 1, none⟩ = some (.int .i64 a)) (r2 : W.cell? ⟨ab, off + k * 3 + 2, none⟩ = some (.int .i64 b)) : Calls Try.prog 43 #[prgV p aP cP aL cL (some ⟨ab, off, none⟩) cO, .int .i64 (k : Int)] W fun e w' => e = .returned (.bool (mayC p ⟨7, a, b⟩ k)) ∧ Below W.heap.size W w' := by
  have E : mayC p ⟨7, a, b⟩ k = (naC a p.outs && wiC b 1 64) := by simp [mayC, letsC]
  rw [E]
  clear E
  have N1 : Hid (∀ U, Calls Try.prog 68 #[.int .i64 a, .int .i64 p.outs] U fun e w' => e = .returned (.bool (naC a p.outs)) ∧ w' = U) := fun U => rpart_any _ _ U
  have N2 : Hid (∀ U, Calls Try.prog 69 #[.int .i64 b, .int .i64 64] U fun e w' => e = .returned (.bool (wiC b 1 64)) ∧ w' = U) := fun U => rcount_any _ _ U
  generalize wiC b 1 64 = y at *
  generalize naC a p.outs = x at *
  unfold prgV
  have hki : (k : Int) < (p.ops.length : Int) := by omega
  generalize p.parts.length = nP at *
  generalize p.lines.length = nL at *
  generalize p.ops.length = nO at *
  cases x with
  | false =>
    rw [Bool.false_and]
    have c0 := (Below.refl W.heap.size W).alloc (Nat.le_refl _) (.cells #[.int .i64 p.mem, .int .i64 p.cnt, .int .i64 p.ins, .int .i64 p.outs, .slice aP nP cP, .slice aL nL cL, .slice (some ⟨ab, off, none⟩) nO cO] 26)
    have G0 := hiddenC (blkA_new 26 W #[.int .i64 p.mem, .int .i64 p.cnt, .int .i64 p.ins, .int .i64 p.outs, .slice aP nP cP, .slice aL nL cL, .slice (some ⟨ab, off, none⟩) nO cO])
    have B0 := hiddenC c0
    have s0 := cellC_later c0 r0
    have s1 := cellC_later c0 r1
    have s2 := cellC_later c0 r2
    clear c0 r0 r1 r2
    go_enter Try.func43, Try.ntmps43
    go_upto_region 1 with fail
    generalize W.alloc (.cells #[.int .i64 p.mem, .int .i64 p.cnt, .int .i64 p.ins, .int .i64 p.outs, .slice aP nP cP, .slice aL nL cL, .slice (some ⟨ab, off, none⟩) nO cO] 26) = W1 at *
    have z0 := G0.out.cell (k := 0) rfl
    have z1 := G0.out.cell (k := 1) rfl
    have z2 := G0.out.cell (k := 2) rfl
    have z3 := G0.out.cell (k := 3) rfl
    have z4 := G0.out.cell (k := 4) rfl
    have z5 := G0.out.cell (k := 5) rfl
    have z6 := G0.out.cell (k := 6) rfl
    simp only [List.getElem_toArray, List.getElem_cons_zero, List.getElem_cons_succ] at z0 z1 z2 z3 z4 z5 z6
    have c1 := (Below.refl W1.heap.size W1).alloc (Nat.le_refl _) (.cells #[.int .u8 7, .int .i64 a, .int .i64 b] 53)
    have G1 := hiddenC (G0.out.below c1)
    have B1 := hiddenC (B0.out.trans (c1.mono B0.out.size))
    have g1 := blkA_new 53 W1 #[.int .u8 7, .int .i64 a, .int .i64 b]
    go_upto_region 2 with fail
    generalize W1.alloc (.cells #[.int .u8 7, .int .i64 a, .int .i64 b] 53) = W2 at *
    have o0 := g1.cell (k := 0) rfl
    have o1 := g1.cell (k := 1) rfl
    have o2 := g1.cell (k := 2) rfl
    simp only [List.getElem_toArray, List.getElem_cons_zero, List.getElem_cons_succ] at o0 o1 o2
    clear c1 g1 z0 z1 z2 z3 z4 z5 z6 s0 s1 s2
    have z0 := G1.out.cell (k := 0) rfl
    have z1 := G1.out.cell (k := 1) rfl
    have z2 := G1.out.cell (k := 2) rfl
    have z3 := G1.out.cell (k := 3) rfl
    have z4 := G1.out.cell (k := 4) rfl
    have z5 := G1.out.cell (k := 5) rfl
    have z6 := G1.out.cell (k := 6) rfl
    simp only [List.getElem_toArray, List.getElem_cons_zero, List.getElem_cons_succ] at z0 z1 z2 z3 z4 z5 z6
    go_wp2_with (first
      | (go_at_call 69; (with_reducible refine (N2.out _).mono ?_); rintro e w' ⟨rfl, hw'⟩; rw [hw']; clear hw' w')
      | (go_at_call 68; (with_reducible refine (N1.out _).mono ?_); rintro e w' ⟨rfl, hw'⟩; rw [hw']; clear hw' w'))
    go_ret
    exact ⟨rfl, B1.out⟩
  | true =>
    rw [Bool.true_and]
    have c0 := (Below.refl W.heap.size W).alloc (Nat.le_refl _) (.cells #[.int .i64 p.mem, .int .i64 p.cnt, .int .i64 p.ins, .int .i64 p.outs, .slice aP nP cP, .slice aL nL cL, .slice (some ⟨ab, off, none⟩) nO cO] 26)
    have G0 := hiddenC (blkA_new 26 W #[.int .i64 p.mem, .int .i64 p.cnt, .int .i64 p.ins, .int .i64 p.outs, .slice aP nP cP, .slice aL nL cL, .slice (some ⟨ab, off, none⟩) nO cO])
    have B0 := hiddenC c0
    have s0 := cellC_later c0 r0
    have s1 := cellC_later c0 r1
    have s2 := cellC_later c0 r2
    clear c0 r0 r1 r2
    go_enter Try.func43, Try.ntmps43
    go_upto_region 1 with fail
    generalize W.alloc (.cells #[.int .i64 p.mem, .int .i64 p.cnt, .int .i64 p.ins, .int .i64 p.outs, .slice aP nP cP, .slice aL nL cL, .slice (some ⟨ab, off, none⟩) nO cO] 26) = W1 at *
    have z0 := G0.out.cell (k := 0) rfl
    have z1 := G0.out.cell (k := 1) rfl
    have z2 := G0.out.cell (k := 2) rfl
    have z3 := G0.out.cell (k := 3) rfl
    have z4 := G0.out.cell (k := 4) rfl
    have z5 := G0.out.cell (k := 5) rfl
    have z6 := G0.out.cell (k := 6) rfl
    simp only [List.getElem_toArray, List.getElem_cons_zero, List.getElem_cons_succ] at z0 z1 z2 z3 z4 z5 z6
    have c1 := (Below.refl W1.heap.size W1).alloc (Nat.le_refl _) (.cells #[.int .u8 7, .int .i64 a, .int .i64 b] 53)
    have G1 := hiddenC (G0.out.below c1)
    have B1 := hiddenC (B0.out.trans (c1.mono B0.out.size))
    have g1 := blkA_new 53 W1 #[.int .u8 7, .int .i64 a, .int .i64 b]
    go_upto_region 2 with fail
    generalize W1.alloc (.cells #[.int .u8 7, .int .i64 a, .int .i64 b] 53) = W2 at *
    have o0 := g1.cell (k := 0) rfl
    have o1 := g1.cell (k := 1) rfl
    have o2 := g1.cell (k := 2) rfl
    simp only [List.getElem_toArray, List.getElem_cons_zero, List.getElem_cons_succ] at o0 o1 o2
    clear c1 g1 z0 z1 z2 z3 z4 z5 z6 s0 s1 s2
    have z0 := G1.out.cell (k := 0) rfl
    have z1 := G1.out.cell (k := 1) rfl
    have z2 := G1.out.cell (k := 2) rfl
    have z3 := G1.out.cell (k := 3) rfl
    have z4 := G1.out.cell (k := 4) rfl
    have z5 := G1.out.cell (k := 5) rfl
    have z6 := G1.out.cell (k := 6) rfl
    simp only [List.getElem_toArray, List.getElem_cons_zero, List.getElem_cons_succ] at z0 z1 z2 z3 z4 z5 z6
    go_wp2_with (first
      | (go_at_call 69; (with_reducible refine (N2.out _).mono ?_); rintro e w' ⟨rfl, hw'⟩; rw [hw']; clear hw' w')
      | (go_at_call 68; (with_reducible refine (N1.out _).mono ?_); rintro e w' ⟨rfl, hw'⟩; rw [hw']; clear hw' w'))
    go_ret
    exact ⟨rfl, B1.out⟩
set_option maxRecDepth 100000 in
set_option maxHeartbeats 2000000 in
theorem rallow_0 (p : PrgC) (a b : Int) (k : Nat) (aP : Option Addr) (cP : Nat) (aL : Option Addr) (cL : Nat) (ab off : Nat) (cO : Nat) (W : World) (hk : k < p.ops.length) (hm : p.ops.length ≤ 1000000) (r0 : W.cell? ⟨ab, off + k * 3, none⟩ = some (.int .u8 0)) (r1 : W.cell? ⟨ab, off + k * 3 + 1, none⟩ = some (.int .i64 a)) (r2 : W.cell? ⟨ab, off + k * 3 + 2, none⟩ = some (.int .i64 b)) : Calls Try.prog 43 #[prgV p aP cP aL cL (some ⟨ab, off, none⟩) cO, .int .i64 (k : Int)] W fun e w' => e = .returned (.bool (mayC p ⟨0, a, b⟩ k)) ∧ Below W.heap.size W w' := by
  have E : mayC p ⟨0, a, b⟩ k = (decide (a = 0) && (decide (b = 0) && decide (k + 1 = p.ops.length))) := by simp [mayC, letsC, Bool.and_assoc]
  rw [E]
  clear E
  have hwn : IntKind.i64.wrap ((p.ops.length : Int) - 1) = (p.ops.length : Int) - 1 := by rw [IntKind.wrap_i64]; omega
  have hkb : ((k : Int) == (p.ops.length : Int) - 1) = decide (k + 1 = p.ops.length) := by
    by_cases h : k + 1 = p.ops.length
    · rw [decide_eq_true h]; simp; omega
    · rw [decide_eq_false h]; simp; omega
  generalize decide (k + 1 = p.ops.length) = x at *
  unfold prgV
  have hki : (k : Int) < (p.ops.length : Int) := by omega
  generalize p.parts.length = nP at *
  generalize p.lines.length = nL at *
  generalize p.ops.length = nO at *
  by_cases ha : a = 0
  · rw [decide_eq_true ha, Bool.true_and]
    have qa : (a == 0) = true := by simpa using ha
    clear ha
    by_cases hb : b = 0
    · rw [decide_eq_true hb, Bool.true_and]
      have qb : (b == 0) = true := by simpa using hb
      clear hb
      cases x with
      | true =>
        have c0 := (Below.refl W.heap.size W).alloc (Nat.le_refl _) (.cells #[.int .i64 p.mem, .int .i64 p.cnt, .int .i64 p.ins, .int .i64 p.outs, .slice aP nP cP, .slice aL nL cL, .slice (some ⟨ab, off, none⟩) nO cO] 26)
        have G0 := hiddenC (blkA_new 26 W #[.int .i64 p.mem, .int .i64 p.cnt, .int .i64 p.ins, .int .i64 p.outs, .slice aP nP cP, .slice aL nL cL, .slice (some ⟨ab, off, none⟩) nO cO])
        have B0 := hiddenC c0
        have s0 := cellC_later c0 r0
        have s1 := cellC_later c0 r1
        have s2 := cellC_later c0 r2
        clear c0 r0 r1 r2
        go_enter Try.func43, Try.ntmps43
        go_upto_region 1 with fail
        generalize W.alloc (.cells #[.int .i64 p.mem, .int .i64 p.cnt, .int .i64 p.ins, .int .i64 p.outs, .slice aP nP cP, .slice aL nL cL, .slice (some ⟨ab, off, none⟩) nO cO] 26) = W1 at *
        have z0 := G0.out.cell (k := 0) rfl
        have z1 := G0.out.cell (k := 1) rfl
        have z2 := G0.out.cell (k := 2) rfl
        have z3 := G0.out.cell (k := 3) rfl
        have z4 := G0.out.cell (k := 4) rfl
        have z5 := G0.out.cell (k := 5) rfl
        have z6 := G0.out.cell (k := 6) rfl
        simp only [List.getElem_toArray, List.getElem_cons_zero, List.getElem_cons_succ] at z0 z1 z2 z3 z4 z5 z6
        have c1 := (Below.refl W1.heap.size W1).alloc (Nat.le_refl _) (.cells #[.int .u8 0, .int .i64 a, .int .i64 b] 53)
        have G1 := hiddenC (G0.out.below c1)
        have B1 := hiddenC (B0.out.trans (c1.mono B0.out.size))
        have g1 := blkA_new 53 W1 #[.int .u8 0, .int .i64 a, .int .i64 b]
        go_upto_region 2 with fail
        generalize W1.alloc (.cells #[.int .u8 0, .int .i64 a, .int .i64 b] 53) = W2 at *
        have o0 := g1.cell (k := 0) rfl
        have o1 := g1.cell (k := 1) rfl
        have o2 := g1.cell (k := 2) rfl
        simp only [List.getElem_toArray, List.getElem_cons_zero, List.getElem_cons_succ] at o0 o1 o2
        clear c1 g1 z0 z1 z2 z3 z4 z5 z6 s0 s1 s2
        have z0 := G1.out.cell (k := 0) rfl
        have z1 := G1.out.cell (k := 1) rfl
        have z2 := G1.out.cell (k := 2) rfl
        have z3 := G1.out.cell (k := 3) rfl
        have z4 := G1.out.cell (k := 4) rfl
        have z5 := G1.out.cell (k := 5) rfl
        have z6 := G1.out.cell (k := 6) rfl
        simp only [List.getElem_toArray, List.getElem_cons_zero, List.getElem_cons_succ] at z0 z1 z2 z3 z4 z5 z6
        go_wp2
        go_ret
        exact ⟨rfl, B1.out⟩
      | false =>
        have c0 := (Below.refl W.heap.size W).alloc (Nat.le_refl _) (.cells #[.int .i64 p.mem, .int .i64 p.cnt, .int .i64 p.ins, .int .i64 p.outs, .slice aP nP cP, .slice aL nL cL, .slice (some ⟨ab, off, none⟩) nO cO] 26)
        have G0 := hiddenC (blkA_new 26 W #[.int .i64 p.mem, .int .i64 p.cnt, .int .i64 p.ins, .int .i64 p.outs, .slice aP nP cP, .slice aL nL cL, .slice (some ⟨ab, off, none⟩) nO cO])
        have B0 := hiddenC c0
        have s0 := cellC_later c0 r0
        have s1 := cellC_later c0 r1
        have s2 := cellC_later c0 r2
        clear c0 r0 r1 r2
        go_enter Try.func43, Try.ntmps43
        go_upto_region 1 with fail
        generalize W.alloc (.cells #[.int .i64 p.mem, .int .i64 p.cnt, .int .i64 p.ins, .int .i64 p.outs, .slice aP nP cP, .slice aL nL cL, .slice (some ⟨ab, off, none⟩) nO cO] 26) = W1 at *
        have z0 := G0.out.cell (k := 0) rfl
        have z1 := G0.out.cell (k := 1) rfl
        have z2 := G0.out.cell (k := 2) rfl
        have z3 := G0.out.cell (k := 3) rfl
        have z4 := G0.out.cell (k := 4) rfl
        have z5 := G0.out.cell (k := 5) rfl
        have z6 := G0.out.cell (k := 6) rfl
        simp only [List.getElem_toArray, List.getElem_cons_zero, List.getElem_cons_succ] at z0 z1 z2 z3 z4 z5 z6
        have c1 := (Below.refl W1.heap.size W1).alloc (Nat.le_refl _) (.cells #[.int .u8 0, .int .i64 a, .int .i64 b] 53)
        have G1 := hiddenC (G0.out.below c1)
        have B1 := hiddenC (B0.out.trans (c1.mono B0.out.size))
        have g1 := blkA_new 53 W1 #[.int .u8 0, .int .i64 a, .int .i64 b]
        go_upto_region 2 with fail
        generalize W1.alloc (.cells #[.int .u8 0, .int .i64 a, .int .i64 b] 53) = W2 at *
        have o0 := g1.cell (k := 0) rfl
        have o1 := g1.cell (k := 1) rfl
        have o2 := g1.cell (k := 2) rfl
        simp only [List.getElem_toArray, List.getElem_cons_zero, List.getElem_cons_succ] at o0 o1 o2
        clear c1 g1 z0 z1 z2 z3 z4 z5 z6 s0 s1 s2
        have z0 := G1.out.cell (k := 0) rfl
        have z1 := G1.out.cell (k := 1) rfl
        have z2 := G1.out.cell (k := 2) rfl
        have z3 := G1.out.cell (k := 3) rfl
        have z4 := G1.out.cell (k := 4) rfl
        have z5 := G1.out.cell (k := 5) rfl
        have z6 := G1.out.cell (k := 6) rfl
        simp only [List.getElem_toArray, List.getElem_cons_zero, List.getElem_cons_succ] at z0 z1 z2 z3 z4 z5 z6
        go_wp2
        go_ret
        exact ⟨rfl, B1.out⟩
    · rw [decide_eq_false hb, Bool.false_and]
      have qb : (b == 0) = false := by simpa using hb
      clear hb
      have c0 := (Below.refl W.heap.size W).alloc (Nat.le_refl _) (.cells #[.int .i64 p.mem, .int .i64 p.cnt, .int .i64 p.ins, .int .i64 p.outs, .slice aP nP cP, .slice aL nL cL, .slice (some ⟨ab, off, none⟩) nO cO] 26)
      have G0 := hiddenC (blkA_new 26 W #[.int .i64 p.mem, .int .i64 p.cnt, .int .i64 p.ins, .int .i64 p.outs, .slice aP nP cP, .slice aL nL cL, .slice (some ⟨ab, off, none⟩) nO cO])
      have B0 := hiddenC c0
      have s0 := cellC_later c0 r0
      have s1 := cellC_later c0 r1
      have s2 := cellC_later c0 r2
      clear c0 r0 r1 r2
      go_enter Try.func43, Try.ntmps43
      go_upto_region 1 with fail
      generalize W.alloc (.cells #[.int .i64 p.mem, .int .i64 p.cnt, .int .i64 p.ins, .int .i64 p.outs, .slice aP nP cP, .slice aL nL cL, .slice (some ⟨ab, off, none⟩) nO cO] 26) = W1 at *
      have z0 := G0.out.cell (k := 0) rfl
      have z1 := G0.out.cell (k := 1) rfl
      have z2 := G0.out.cell (k := 2) rfl
      have z3 := G0.out.cell (k := 3) rfl
      have z4 := G0.out.cell (k := 4) rfl
      have z5 := G0.out.cell (k := 5) rfl
      have z6 := G0.out.cell (k := 6) rfl
      simp only [List.getElem_toArray, List.getElem_cons_zero, List.getElem_cons_succ] at z0 z1 z2 z3 z4 z5 z6
      have c1 := (Below.refl W1.heap.size W1).alloc (Nat.le_refl _) (.cells #[.int .u8 0, .int .i64 a, .int .i64 b] 53)
      have G1 := hiddenC (G0.out.below c1)
      have B1 := hiddenC (B0.out.trans (c1.mono B0.out.size))
      have g1 := blkA_new 53 W1 #[.int .u8 0, .int .i64 a, .int .i64 b]
      go_upto_region 2 with fail
      generalize W1.alloc (.cells #[.int .u8 0, .int .i64 a, .int .i64 b] 53) = W2 at *
      have o0 := g1.cell (k := 0) rfl
      have o1 := g1.cell (k := 1) rfl
      have o2 := g1.cell (k := 2) rfl
      simp only [List.getElem_toArray, List.getElem_cons_zero, List.getElem_cons_succ] at o0 o1 o2
      clear c1 g1 z0 z1 z2 z3 z4 z5 z6 s0 s1 s2
      have z0 := G1.out.cell (k := 0) rfl
      have z1 := G1.out.cell (k := 1) rfl
      have z2 := G1.out.cell (k := 2) rfl
      have z3 := G1.out.cell (k := 3) rfl
      have z4 := G1.out.cell (k := 4) rfl
      have z5 := G1.out.cell (k := 5) rfl
      have z6 := G1.out.cell (k := 6) rfl
      simp only [List.getElem_toArray, List.getElem_cons_zero, List.getElem_cons_succ] at z0 z1 z2 z3 z4 z5 z6
      go_wp2
      go_ret
      exact ⟨rfl, B1.out⟩
  · rw [decide_eq_false ha, Bool.false_and]
    have qa : (a == 0) = false := by simpa using ha
    clear ha
    have c0 := (Below.refl W.heap.size W).alloc (Nat.le_refl _) (.cells #[.int .i64 p.mem, .int .i64 p.cnt, .int .i64 p.ins, .int .i64 p.outs, .slice aP nP cP, .slice aL nL cL, .slice (some ⟨ab, off, none⟩) nO cO] 26)
    have G0 := hiddenC (blkA_new 26 W #[.int .i64 p.mem, .int .i64 p.cnt, .int .i64 p.ins, .int .i64 p.outs, .slice aP nP cP, .slice aL nL cL, .slice (some ⟨ab, off, none⟩) nO cO])
    have B0 := hiddenC c0
    have s0 := cellC_later c0 r0
    have s1 := cellC_later c0 r1
    have s2 := cellC_later c0 r2
    clear c0 r0 r1 r2
    go_enter Try.func43, Try.ntmps43
    go_upto_region 1 with fail
    generalize W.alloc (.cells #[.int .i64 p.mem, .int .i64 p.cnt, .int .i64 p.ins, .int .i64 p.outs, .slice aP nP cP, .slice aL nL cL, .slice (some ⟨ab, off, none⟩) nO cO] 26) = W1 at *
    have z0 := G0.out.cell (k := 0) rfl
    have z1 := G0.out.cell (k := 1) rfl
    have z2 := G0.out.cell (k := 2) rfl
    have z3 := G0.out.cell (k := 3) rfl
    have z4 := G0.out.cell (k := 4) rfl
    have z5 := G0.out.cell (k := 5) rfl
    have z6 := G0.out.cell (k := 6) rfl
    simp only [List.getElem_toArray, List.getElem_cons_zero, List.getElem_cons_succ] at z0 z1 z2 z3 z4 z5 z6
    have c1 := (Below.refl W1.heap.size W1).alloc (Nat.le_refl _) (.cells #[.int .u8 0, .int .i64 a, .int .i64 b] 53)
    have G1 := hiddenC (G0.out.below c1)
    have B1 := hiddenC (B0.out.trans (c1.mono B0.out.size))
    have g1 := blkA_new 53 W1 #[.int .u8 0, .int .i64 a, .int .i64 b]
    go_upto_region 2 with fail
    generalize W1.alloc (.cells #[.int .u8 0, .int .i64 a, .int .i64 b] 53) = W2 at *
    have o0 := g1.cell (k := 0) rfl
    have o1 := g1.cell (k := 1) rfl
    have o2 := g1.cell (k := 2) rfl
    simp only [List.getElem_toArray, List.getElem_cons_zero, List.getElem_cons_succ] at o0 o1 o2
    clear c1 g1 z0 z1 z2 z3 z4 z5 z6 s0 s1 s2
    have z0 := G1.out.cell (k := 0) rfl
    have z1 := G1.out.cell (k := 1) rfl
    have z2 := G1.out.cell (k := 2) rfl
    have z3 := G1.out.cell (k := 3) rfl
    have z4 := G1.out.cell (k := 4) rfl
    have z5 := G1.out.cell (k := 5) rfl
    have z6 := G1.out.cell (k := 6) rfl
    simp only [List.getElem_toArray, List.getElem_cons_zero, List.getElem_cons_succ] at z0 z1 z2 z3 z4 z5 z6
    go_wp2
    go_ret
    exact ⟨rfl, B1.out⟩
set_option maxRecDepth 100000 in
set_option maxHeartbeats 2000000 in
theorem rallow_8 (z : Int) (hz : 8 ≤ z) (p : PrgC) (a b : Int) (k : Nat) (aP : Option Addr) (cP : Nat) (aL : Option Addr) (cL : Nat) (ab off : Nat) (cO : Nat) (W : World) (hk : k < p.ops.length) (_hm : p.ops.length ≤ 1000000) (r0 : W.cell? ⟨ab, off + k * 3, none⟩ = some (.int .u8 z)) (r1 : W.cell? ⟨ab, off + k * 3 + 1, none⟩ = some (.int .i64 a)) (r2 : W.cell? ⟨ab, off + k * 3 + 2, none⟩ = some (.int .i64 b)) : Calls Try.prog 43 #[prgV p aP cP aL cL (some ⟨ab, off, none⟩) cO, .int .i64 (k : Int)] W fun e w' => e = .returned (.bool (false)) ∧ Below W.heap.size W w' := by
  unfold prgV
  have hki : (k : Int) < (p.ops.length : Int) := by omega
  generalize p.parts.length = nP at *
  generalize p.lines.length = nL at *
  generalize p.ops.length = nO at *
  have x0 : (z == 0) = false := by simp; omega
  have x1 : (z == 1) = false := by simp; omega
  have x2 : (z == 2) = false := by simp; omega
  have x3 : (z == 3) = false := by simp; omega
  have x4 : (z == 4) = false := by simp; omega
  have x5 : (z == 5) = false := by simp; omega
  have x6 : (z == 6) = false := by simp; omega
  have x7 : (z == 7) = false := by simp; omega
  clear hz
  have c0 := (Below.refl W.heap.size W).alloc (Nat.le_refl _) (.cells #[.int .i64 p.mem, .int .i64 p.cnt, .int .i64 p.ins, .int .i64 p.outs, .slice aP nP cP, .slice aL nL cL, .slice (some ⟨ab, off, none⟩) nO cO] 26)
  have G0 := hiddenC (blkA_new 26 W #[.int .i64 p.mem, .int .i64 p.cnt, .int .i64 p.ins, .int .i64 p.outs, .slice aP nP cP, .slice aL nL cL, .slice (some ⟨ab, off, none⟩) nO cO])
  have B0 := hiddenC c0
  have s0 := cellC_later c0 r0
  have s1 := cellC_later c0 r1
  have s2 := cellC_later c0 r2
  clear c0 r0 r1 r2
  go_enter Try.func43, Try.ntmps43
  go_upto_region 1 with fail
  generalize W.alloc (.cells #[.int .i64 p.mem, .int .i64 p.cnt, .int .i64 p.ins, .int .i64 p.outs, .slice aP nP cP, .slice aL nL cL, .slice (some ⟨ab, off, none⟩) nO cO] 26) = W1 at *
  have z0 := G0.out.cell (k := 0) rfl
  have z1 := G0.out.cell (k := 1) rfl
  have z2 := G0.out.cell (k := 2) rfl
  have z3 := G0.out.cell (k := 3) rfl
  have z4 := G0.out.cell (k := 4) rfl
  have z5 := G0.out.cell (k := 5) rfl
  have z6 := G0.out.cell (k := 6) rfl
  simp only [List.getElem_toArray, List.getElem_cons_zero, List.getElem_cons_succ] at z0 z1 z2 z3 z4 z5 z6
  have c1 := (Below.refl W1.heap.size W1).alloc (Nat.le_refl _) (.cells #[.int .u8 z, .int .i64 a, .int .i64 b] 53)
  have G1 := hiddenC (G0.out.below c1)
  have B1 := hiddenC (B0.out.trans (c1.mono B0.out.size))
  have g1 := blkA_new 53 W1 #[.int .u8 z, .int .i64 a, .int .i64 b]
  go_upto_region 2 with fail
  generalize W1.alloc (.cells #[.int .u8 z, .int .i64 a, .int .i64 b] 53) = W2 at *
  have o0 := g1.cell (k := 0) rfl
  have o1 := g1.cell (k := 1) rfl
  have o2 := g1.cell (k := 2) rfl
  simp only [List.getElem_toArray, List.getElem_cons_zero, List.getElem_cons_succ] at o0 o1 o2
  clear c1 g1 z0 z1 z2 z3 z4 z5 z6 s0 s1 s2
  have z0 := G1.out.cell (k := 0) rfl
  have z1 := G1.out.cell (k := 1) rfl
  have z2 := G1.out.cell (k := 2) rfl
  have z3 := G1.out.cell (k := 3) rfl
  have z4 := G1.out.cell (k := 4) rfl
  have z5 := G1.out.cell (k := 5) rfl
  have z6 := G1.out.cell (k := 6) rfl
  simp only [List.getElem_toArray, List.getElem_cons_zero, List.getElem_cons_succ] at z0 z1 z2 z3 z4 z5 z6
  go_wp2
  go_ret
  exact ⟨rfl, B1.out⟩
theorem rallowed_any (p : PrgC) (q : OpC) (k : Nat) (aP : Option Addr) (cP : Nat) (aL : Option Addr) (cL : Nat) (aO : Option Addr) (cO : Nat) (W : World) (hq : p.ops[k]? = some q) (hm : p.ops.length ≤ 1000000) (hA : AtV opV 3 W aO p.ops) :
    Calls Try.prog 43 #[prgV p aP cP aL cL aO cO, .int .i64 (k : Int)] W fun e w' => e = .returned (.bool (mayC p q k)) ∧ Below W.heap.size W w' := by
  obtain ⟨hk, -⟩ := List.getElem?_eq_some_iff.1 hq
  rcases hA with e1 | ⟨ab, off, rfl, hc⟩
  · rw [e1] at hk; exact absurd hk (Nat.not_lt_zero _)
  have r0 := hc k q hq 0 _ rfl
  have r1 := hc k q hq 1 _ rfl
  have r2 := hc k q hq 2 _ rfl
  simp only [Nat.add_zero] at r0
  obtain ⟨t, a, b⟩ := q
  match t, r0 with
  | 0, r0 => exact rallow_0 p a b k aP cP aL cL ab off cO W hk hm r0 r1 r2
  | 1, r0 => exact rallow_1 p a b k aP cP aL cL ab off cO W hk hm r0 r1 r2
  | 2, r0 => exact rallow_2 p a b k aP cP aL cL ab off cO W hk hm r0 r1 r2
  | 3, r0 => exact rallow_3 p a b k aP cP aL cL ab off cO W hk hm r0 r1 r2
  | 4, r0 => exact rallow_4 p a b k aP cP aL cL ab off cO W hk hm r0 r1 r2
  | 5, r0 => exact rallow_5 p a b k aP cP aL cL ab off cO W hk hm r0 r1 r2
  | 6, r0 => exact rallow_6 p a b k aP cP aL cL ab off cO W hk hm r0 r1 r2
  | 7, r0 => exact rallow_7 p a b k aP cP aL cL ab off cO W hk hm r0 r1 r2
  | t + 8, r0 =>
    have e : mayC p ⟨t + 8, a, b⟩ k = false := rfl
    rw [e]
    exact rallow_8 ((t + 8 : Nat) : Int) (by omega) p a b k aP cP aL cL ab off cO W hk hm r0 r1 r2
end Go.Proofs.Ytdjplmlfcolklaa
