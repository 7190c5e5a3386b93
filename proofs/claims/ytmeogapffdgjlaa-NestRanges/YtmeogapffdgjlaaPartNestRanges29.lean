/- Texts of one chain, laid one behind the other. -/
import Derived.Test.YtmeogapffdgjlaaPartNestRanges15
import Derived.Test.YtmeogapffdgjlaaPartNestRanges28
namespace Go.Proofs.Ytmeogapffdgjlaa
open Go.ChangeShapes Go.WideShapes Go.ChangeAt Go.RowKit Go.Shelf
attribute [local go_sem] Oper.semAt_some
def inL : List Lp := [⟨3, 0, [⟨1, 1, []⟩, ⟨2, 2, []⟩]⟩]
theorem in_siz : sizZ inL = 3 := by simp [inL, sizZ]
theorem in_lvs : lvsZ inL = 2 := by simp [inL, lvsZ]
theorem in_hds : hdsZ inL = 2 := by simp [inL, hdsZ]
theorem in_dps : dpsZ 0 inL = 1 := by simp [inL, dpsZ]
theorem in_tot : totZ inL = 9 := by simp [inL, totZ]
theorem in_exp : expZ inL = [1, 2, 2, 1, 2, 2, 1, 2, 2] := by simp [inL, expZ, repZ, List.replicate]
theorem in_err : errZ 0 0 inL = 0 := by simp [inL, errZ, flwZ, lvsZ]
theorem in_chk : chkZ inL = 0 := by unfold chkZ; rw [in_err, in_tot]; rfl
theorem in_kept : keptZ inL = inL := by unfold keptZ; rw [if_pos in_chk]
theorem in_sizV : sizV inL = .agg #[.int .i64 2, .int .i64 2, .int .i64 1, .int .i64 9] := by unfold sizV; rw [if_pos in_chk, in_lvs, in_hds, in_dps, in_tot]; rfl
theorem zero_chk : chkZ [⟨0, 0, []⟩] = 160 := by unfold chkZ; simp [errZ, flwZ]
theorem runs_four : runsY [3, 3, -1, 3] = [(3, 2), (-1, 1), (3, 1)] := by decide
theorem flat_two : chkY [(3, 2), (1, 1)] = 0 ∧ flatsY [(3, 2), (1, 1)] = [3, 3, 1] := by decide
set_option maxRecDepth 100000 in
theorem insideZ_any (w : World) : Calls Try.prog 35 #[] w fun e w' => ∃ g, e = .returned (.slice (some ⟨g, 0, none⟩) 1 1) ∧ Nst (· < w'.heap.size) false w' (some ⟨g, 0, none⟩) inL ∧ Below w.heap.size w w' := by
  have b1 := (Below.refl w.heap.size w).alloc (Nat.le_refl _) (.cells #[.int .i64 1, .int .i64 1, .slice none 0 0, .int .i64 2, .int .i64 2, .slice none 0 0] 57)
  have b2 := b1.alloc b1.size (.cells #[.int .i64 3, .int .i64 0, .slice (some ⟨w.heap.size, 0, none⟩) 2 2] 57)
  have hz : (w.alloc (.cells #[.int .i64 1, .int .i64 1, .slice none 0 0, .int .i64 2, .int .i64 2, .slice none 0 0] 57)).heap.size = w.heap.size + 1 := World.size_alloc _ _
  have x1 := (blkA_new 57 w #[.int .i64 1, .int .i64 1, .slice none 0 0, .int .i64 2, .int .i64 2, .slice none 0 0]).below ((Below.refl _ _).alloc (Nat.le_refl _) (.cells #[.int .i64 3, .int .i64 0, .slice (some ⟨w.heap.size, 0, none⟩) 2 2] 57))
  have x2 := blkA_new 57 (w.alloc (.cells #[.int .i64 1, .int .i64 1, .slice none 0 0, .int .i64 2, .int .i64 2, .slice none 0 0] 57)) #[.int .i64 3, .int .i64 0, .slice (some ⟨w.heap.size, 0, none⟩) 2 2]
  have hz2 : ((w.alloc (.cells #[.int .i64 1, .int .i64 1, .slice none 0 0, .int .i64 2, .int .i64 2, .slice none 0 0] 57)).alloc (.cells #[.int .i64 3, .int .i64 0, .slice (some ⟨w.heap.size, 0, none⟩) 2 2] 57)).heap.size = w.heap.size + 1 + 1 := by rw [World.size_alloc, hz]
  rw [hz] at x2
  have HN : Hid (Nst (· < w.heap.size + 1 + 1) false ((w.alloc (.cells #[.int .i64 1, .int .i64 1, .slice none 0 0, .int .i64 2, .int .i64 2, .slice none 0 0] 57)).alloc (.cells #[.int .i64 3, .int .i64 0, .slice (some ⟨w.heap.size, 0, none⟩) 2 2] 57)) (some ⟨w.heap.size + 1, 0, none⟩) inL) := by
    refine .inr ⟨_, 0, rfl, ?_⟩
    unfold inL
    rw [nst_cons, nst_nil]
    refine ⟨Nat.lt_succ_self _, x2.cell (k := 0) rfl, x2.cell (k := 1) rfl, ⟨_, 2, x2.cell (k := 2) rfl, .inr ⟨w.heap.size, 0, rfl, (fun e => by cases e), ?_⟩⟩, fun e => by cases e⟩
    rw [nst_cons, nst_cons, nst_nil]
    exact ⟨Nat.lt_succ_of_lt (Nat.lt_succ_self _), x1.cell (k := 0) rfl, x1.cell (k := 1) rfl, ⟨none, 0, x1.cell (k := 2) rfl, .inl rfl⟩, Nat.lt_succ_of_lt (Nat.lt_succ_self _), x1.cell (k := 3) rfl, x1.cell (k := 4) rfl, ⟨none, 0, x1.cell (k := 5) rfl, .inl rfl⟩, fun e => by cases e⟩
  have B2 := hiddenN b2
  have HZ := hiddenN hz2
  clear b1 b2 x1 x2 hz hz2
  go_enter Try.func35, Try.ntmps35
  go_wp2
  go_ret
  exact ⟨_, rfl, by rw [HZ.out]; exact HN.out, B2.out⟩
attribute [local go_sem] Oper.semAt_some
theorem measIn (u : World) (g : Nat) (h : Nst (· < u.heap.size) false u (some ⟨g, 0, none⟩) inL) : Calls Try.prog 29 #[.slice (some ⟨g, 0, none⟩) 1 1] u fun e w' => e = .returned (.tuple #[.agg #[.int .i64 2, .int .i64 2, .int .i64 1, .int .i64 9], .int .i64 0]) ∧ Below u.heap.size u w' := by
  have := measZ_any inL false (some ⟨g, 0, none⟩) 1 u h (by rw [in_siz]; decide)
  rw [in_sizV, in_chk] at this
  exact this
theorem checkIn (u : World) (g : Nat) (h : Nst (· < u.heap.size) false u (some ⟨g, 0, none⟩) inL) : Calls Try.prog 25 #[.slice (some ⟨g, 0, none⟩) 1 1] u fun e w' => e = .returned (.int .i64 0) ∧ Below u.heap.size u w' := by
  have := checkZ_any inL false (some ⟨g, 0, none⟩) 1 u h (by rw [in_siz]; decide)
  rw [in_chk] at this
  exact this
theorem expIn (u : World) (g : Nat) (h : Nst (· < u.heap.size) false u (some ⟨g, 0, none⟩) inL) : Calls Try.prog 26 #[.slice (some ⟨g, 0, none⟩) 1 1] u fun e w' => ∃ d c, e = .returned (.tuple #[.slice d 9 c, .int .i64 0]) ∧ CapR u.heap.size w' d c [1, 2, 2, 1, 2, 2, 1, 2, 2] ∧ Below u.heap.size u w' := by
  have := expandZ_any inL false (some ⟨g, 0, none⟩) 1 u h (by rw [in_siz]; decide)
  unfold ExpE at this
  rw [in_chk, in_kept, in_exp] at this
  exact this
theorem allIn (u : World) (g : Nat) (h : Nst (· < u.heap.size) false u (some ⟨g, 0, none⟩) inL) : Calls Try.prog 13 #[.slice (some ⟨g, 0, none⟩) 1 1] u fun e w' => ∃ kb, e = .returned (.func (.func 40) #[] #[.pointer (some ⟨kb, 0, none⟩)]) ∧ AllZ u.heap.size w' kb inL ∧ Below u.heap.size u w' :=
  allZ_any inL false (some ⟨g, 0, none⟩) 1 u h (by rw [in_siz]; decide)
theorem checkNo (u : World) : Calls Try.prog 25 #[.slice (some ⟨u.heap.size, 0, none⟩) 1 1] (u.alloc (.cells #[.int .i64 0, .int .i64 0, .slice none 0 0] 57)) fun e w' => e = .returned (.int .i64 160) ∧ Below u.heap.size u w' := by
  have x := blkA_new 57 u #[.int .i64 0, .int .i64 0, .slice none 0 0]
  have hz : (u.alloc (.cells #[.int .i64 0, .int .i64 0, .slice none 0 0] 57)).heap.size = u.heap.size + 1 := World.size_alloc _ _
  have := checkZ_any [⟨0, 0, []⟩] false (some ⟨u.heap.size, 0, none⟩) 1 _ (.inr ⟨_, 0, rfl, nst_cons.2 ⟨(by show _ < _; rw [hz]; exact Nat.lt_succ_self _), x.cell (k := 0) rfl, x.cell (k := 1) rfl, ⟨none, 0, x.cell (k := 2) rfl, .inl rfl⟩, nst_nil.2 (fun e => by cases e)⟩⟩) (by simp [sizZ])
  rw [zero_chk] at this
  refine this.mono fun e w' ⟨h1, h2⟩ => ⟨h1, ?_⟩
  exact ((Below.refl u.heap.size u).alloc (Nat.le_refl _) _).trans (h2.mono (by rw [hz]; exact Nat.le_succ _))
theorem runsIn (u : World) : Calls Try.prog 30 #[.slice (some ⟨u.heap.size, 0, none⟩) 4 4] (u.alloc (.cells #[.int .i64 3, .int .i64 3, .int .i64 (-1), .int .i64 3] 3)) fun e w' => ∃ d c, e = .returned (.slice d 3 c) ∧ CapY u.heap.size w' d c [(3, 2), (-1, 1), (3, 1)] ∧ Below u.heap.size u w' := by
  have x := blkA_new 3 u #[.int .i64 3, .int .i64 3, .int .i64 (-1), .int .i64 3]
  have hz : (u.alloc (.cells #[.int .i64 3, .int .i64 3, .int .i64 (-1), .int .i64 3] 3)).heap.size = u.heap.size + 1 := World.size_alloc _ _
  have := runsZ_any (some ⟨u.heap.size, 0, none⟩) [3, 3, -1, 3] 4 _ (.inr ⟨_, 0, rfl, fun k hk => by
    match k, hk with
    | 0, _ => exact x.cell (k := 0) rfl
    | 1, _ => exact x.cell (k := 1) rfl
    | 2, _ => exact x.cell (k := 2) rfl
    | 3, _ => exact x.cell (k := 3) rfl⟩) (by decide)
  unfold RunE at this
  rw [runs_four, hz] at this
  refine this.mono fun e w' ⟨d, c, h1, h2, h3⟩ => ⟨d, c, h1, h2.mono (Nat.le_succ _), ?_⟩
  exact ((Below.refl u.heap.size u).alloc (Nat.le_refl _) _).trans (h3.mono (Nat.le_succ _))
theorem flatIn (u : World) : Calls Try.prog 36 #[.slice (some ⟨u.heap.size, 0, none⟩) 2 2] (u.alloc (.cells #[.int .i64 3, .int .i64 2, .int .i64 1, .int .i64 1] 65)) fun e w' => ∃ d c, e = .returned (.tuple #[.slice d 3 c, .int .i64 0]) ∧ CapR u.heap.size w' d c [3, 3, 1] ∧ Below u.heap.size u w' := by
  have x := blkA_new 65 u #[.int .i64 3, .int .i64 2, .int .i64 1, .int .i64 1]
  have hz : (u.alloc (.cells #[.int .i64 3, .int .i64 2, .int .i64 1, .int .i64 1] 65)).heap.size = u.heap.size + 1 := World.size_alloc _ _
  have := flatZ_any (some ⟨u.heap.size, 0, none⟩) [(3, 2), (1, 1)] 2 _ (.inr ⟨_, 0, rfl, fun k hk => by
    match k, hk with
    | 0, _ => exact ⟨x.cell (k := 0) rfl, x.cell (k := 1) rfl⟩
    | 1, _ => exact ⟨x.cell (k := 2) rfl, x.cell (k := 3) rfl⟩⟩) (by decide)
  unfold FlaE at this
  rw [flat_two.1, flat_two.2, if_pos rfl, hz] at this
  refine this.mono fun e w' ⟨d, c, h1, h2, h3⟩ => ⟨d, c, h1, h2.mono (Nat.le_succ _), ?_⟩
  exact ((Below.refl u.heap.size u).alloc (Nat.le_refl _) _).trans (h3.mono (Nat.le_succ _))
theorem sameNine (U : World) (a1 : Option Addr) (c1 : Nat) (a2 : Option Addr) (c2 : Nat) (h1 : At U a1 [1, 2, 2, 1, 2, 2, 1, 2, 2]) (h2 : At U a2 [1, 2, 2, 1, 2, 2, 1, 2, 2]) : Calls Try.prog 16 #[.slice a1 9 c1, .slice a2 9 c2] U fun e w' => e = .returned (.bool true) ∧ Below U.heap.size U w' := sameN U a1 a2 [1, 2, 2, 1, 2, 2, 1, 2, 2] c1 c2 (by decide) h1 h2
theorem sameThree (U : World) (a1 : Option Addr) (c1 : Nat) (h1 : At U a1 [3, 3, 1]) : Calls Try.prog 16 #[.slice a1 3 c1, .slice (some ⟨U.heap.size, 0, none⟩) 3 3] (U.alloc (.cells #[.int .i64 3, .int .i64 3, .int .i64 1] 3)) fun e w' => e = .returned (.bool true) ∧ Below U.heap.size U w' := by
  have x := blkA_new 3 U #[.int .i64 3, .int .i64 3, .int .i64 1]
  have b := (Below.refl U.heap.size U).alloc (Nat.le_refl _) (.cells #[.int .i64 3, .int .i64 3, .int .i64 1] 3)
  refine (sameN _ a1 (some ⟨U.heap.size, 0, none⟩) [3, 3, 1] c1 3 (by decide) (h1.below b) (.inr ⟨_, 0, rfl, fun k hk => ?_⟩)).mono fun e w' ⟨h1, h2⟩ => ⟨h1, b.trans (h2.mono b.size)⟩
  match k, hk with
  | 0, _ => exact x.cell (k := 0) rfl
  | 1, _ => exact x.cell (k := 1) rfl
  | 2, _ => exact x.cell (k := 2) rfl
set_option maxRecDepth 100000 in
set_option maxHeartbeats 16000000 in
theorem awake16 (w : World) : Calls Try.prog 10 #[] w fun e w' => e = .returned (.bool true) ∧ Below w.heap.size w w' := by
  have IS := hiddenN insideZ_any
  have ME := hiddenN measIn
  have EX := hiddenN expIn
  have AL := hiddenN allIn
  have CK := hiddenN checkIn
  have C0 := hiddenN checkNo
  have RU := hiddenN runsIn
  have FL := hiddenN flatIn
  have SI9 := hiddenN sameNine
  have SI3 := hiddenN sameThree
  obtain ⟨RE, hRE⟩ : ∃ Q : Ending → World → Prop, (fun e w' => e = .returned (.bool true) ∧ Below w.heap.size w w') = Q := ⟨_, rfl⟩
  rw [hRE]
  have HRE := hiddenN hRE
  clear hRE
  obtain ⟨i0, hi, hz0, hz1, hz2⟩ := info_parts Try.info3
  refine (callsIn_wide (n := 9)).1 (callsIn_of_wp_marks Try.func10 rfl trivial ?_ rfl)
  simp only [Try.ntmps10, List.size_toArray, List.length_nil, Nat.reduceSub, Array.replicate_succ, Array.replicate_zero, List.push_toArray, List.append_toArray, List.nil_append, List.cons_append]
  refine wpIn_wide.2 ?_
  go_upto_region 2 with (first
    | (go_at_call 35; (with_reducible refine (IS.out _).mono ?_); rintro e V1 ⟨g1, rfl, hn1, b1⟩; have N1 := hiddenN hn1; have L1 := hiddenN b1; clear hn1 b1)
    | (go_at_call 29; (with_reducible refine (ME.out V1 g1 N1.out).mono ?_); rintro e V2 ⟨rfl, b2⟩; have L2 := hiddenN (L1.out.trans (b2.mono L1.out.size)); clear b2))
  have X2 := hiddenN (blkA_new 47 V2 #[.int .i64 2, .int .i64 2, .int .i64 1, .int .i64 9])
  have L3 := hiddenN (L2.out.alloc L2.out.size (.cells #[.int .i64 2, .int .i64 2, .int .i64 1, .int .i64 9] 47))
  obtain ⟨x1, hx1⟩ : ∃ q, V2.heap.size = q := ⟨_, rfl⟩
  rw [hx1] at X2 ⊢
  clear hx1 L1 N1
  generalize V2.alloc (.cells #[.int .i64 2, .int .i64 2, .int .i64 1, .int .i64 9] 47) = V3 at *
  go_upto_region 3 with (first
    | (go_at_call 35; (with_reducible refine (IS.out V3).mono ?_); rintro e V4 ⟨g4, rfl, hn4, b4⟩; have N4 := hiddenN hn4; have L4 := hiddenN (L3.out.trans (b4.mono L3.out.size)); have X4 := hiddenN (X2.out.below b4); clear hn4 b4)
    | (go_at_call 26; (with_reducible refine (EX.out V4 g4 N4.out).mono ?_); rintro e V5 ⟨d5, c5, rfl, hc5, b5⟩; have E5 := hiddenN hc5.at; have L5 := hiddenN (L4.out.trans (b5.mono L4.out.size)); have X5 := hiddenN (X4.out.below b5); clear hc5 b5))
  clear L3 L4 X2 X4 N4
  have RU5 := hiddenN (RU.out V5)
  go_upto_region 4 with (go_at_call 30; (with_reducible refine RU5.out.mono ?_); rintro e V6 ⟨d6, c6, rfl, hc6, b6⟩; have R6 := hiddenN hc6; have L6 := hiddenN (L5.out.trans (b6.mono L5.out.size)); have X6 := hiddenN (X5.out.below b6); have E6 := hiddenN (E5.out.below b6); clear hc6 b6)
  have FL6 := hiddenN (FL.out V6)
  go_upto_region 7 with (go_at_call 36; (with_reducible refine FL6.out.mono ?_); rintro e V7 ⟨d7, c7, rfl, hc7, b7⟩; have F7 := hiddenN hc7.at; have L7 := hiddenN (L6.out.trans (b7.mono L6.out.size)); have X7 := hiddenN (X6.out.below b7); have E7 := hiddenN (E6.out.below b7); have R7 := hiddenN (R6.out.later b7); clear hc7 b7)
  clear L5 L6 X5 X6 E5 E6 R6 RU5 FL6
  have b8 := (Below.refl V7.heap.size V7).alloc (Nat.le_refl _) (.cells #[.slice none 0 0] 26)
  have B8 := hiddenN b8
  have BX := hiddenN (Boxed.new V7 26 (.slice none 0 0))
  go_upto_region 8 with fail
  obtain ⟨lb, hlb⟩ : ∃ q, V7.heap.size = q := ⟨_, rfl⟩
  have HLB := hiddenN hlb
  rw [hlb] at BX ⊢
  clear b8 hlb
  generalize V7.alloc (.cells #[.slice none 0 0] 26) = V8 at *
  go_wp2_with (first
    | (go_at_call 35; (with_reducible refine (IS.out V8).mono ?_); rintro e V9 ⟨g9, rfl, hn9, b9⟩; have N9 := hiddenN hn9; have B9 := hiddenN (B8.out.trans (b9.mono B8.out.size)); have BX9 := hiddenN (BX.out.kept (grown_below b9) (by simp)); clear hn9 b9)
    | (go_at_call 13; (with_reducible refine (AL.out V9 g9 N9.out).mono ?_); rintro e V10 ⟨kb, rfl, ha, b10⟩; have HA := hiddenN ha; have B10 := hiddenN (B9.out.trans (b10.mono B9.out.size)); have BX10 := hiddenN (BX9.out.kept (grown_below b10) (by simp)); clear ha b10))
  have hT9 : Hid (totZ (keptZ inL) = 9) := by show _ = _; rw [in_kept, in_tot]
  have hE9 : Hid (expZ (keptZ inL) = [1, 2, 2, 1, 2, 2, 1, 2, 2]) := by show _ = _; rw [in_kept, in_exp]
  have HLW : Hid (w.heap.size ≤ V10.heap.size) := Nat.le_trans L7.out.size B10.out.size
  have hlb2 : V7.heap.size ≤ lb := by rw [HLB.out]; exact Nat.le_refl _
  refine rangeZ 9 rfl (enters_of Try.func40 (by kernel_rfl) rfl) (allZ_stops (9 - 1) V9.heap.size V10 kb inL HA.out (by rw [in_siz]; decide)) (fun h k => KpZ.trans h k) (kpZ_b (w := V10))
    (fun pre W => ColZ V7.heap.size V7 V10 lb pre W) (fun _ _ _ => False) (ColZ.own B10.out.size (Nat.le_refl _)) (fun _ _ _ _ _ hs _ _ => hs) ⟨⟨_, BX10.out, World.ownsRow_nil _ _ _ _, fun _ => rfl⟩, B10.out, KpZ.refl _ _⟩ ?assign ?body ?done ?stop
  case assign =>
    intro l9 x W K hK
    simp only [List.setIfInBounds_toArray, List.set_cons_zero, List.set_cons_succ] at hK ⊢
    gi_wp2
    exact hK
  case body =>
    rintro l9 pre x W hcol hlt
    simp only [List.setIfInBounds_toArray, List.set_cons_zero, List.set_cons_succ]
    obtain ⟨v, hv, hrow, hnil⟩ := hcol.box
    have hB := hcol.below
    have hc := hv.cell
    rw [hT9.out] at hlt
    gi_wp2_with (gi_at_builtin; refine wpListIn_append_own _ rfl _ _ 26 rfl V7.heap.size 3 i0 (.int .i64 0) 1 8 Try.underlying26 hi hz0 hz1 hz2 rfl (by decide) _ _ _ rfl (hrow.alloc _) ⟨W.heap.size, 0, none⟩ 1 1 [.int .i64 x] rfl rfl (cell_one_new _ _ _) (by simp [Value.oneCell']) (by unfold maxLen; omega) (by omega) (by have := hB.size; simp; omega) ?_; intro v' w1 hown' hgrow _; obtain ⟨g', cap', rfl⟩ := ownsRow_succ hown'; obtain ⟨hv1, hk2, hkp, hcol2⟩ := hcol.step hv hrow hlb2 hB.size (by intro e; cases e) hown' hgrow; have hc1 := hv1.cell; have hf1 := hv1.frozen)
    exact ⟨hk2, hkp, hcol2⟩
  case stop =>
    rintro D c' pre W _ _ h _
    exact h.elim
  case done =>
    rintro D ys W hD rfl hcol hK
    rw [hE9.out] at hcol
    obtain ⟨v, hv, hrow, hnil⟩ := hcol.box
    obtain ⟨d, c9, rfl⟩ : ∃ d c9, v = .slice d 9 c9 := row_slice hrow
    have D0 : Hid (CapR V7.heap.size W d c9 [1, 2, 2, 1, 2, 2, 1, 2, 2]) := hrow
    have BX0 := hiddenN hv
    have B0 := hiddenN hcol.below
    have HK := hiddenN hK
    have E0 := hiddenN (E7.out.below B0.out)
    have F0 := hiddenN (F7.out.below B0.out)
    have R0 := hiddenN (R7.out.later B0.out)
    have X0 := hiddenN (X7.out.below B0.out)
    have L0 := hiddenN (L7.out.trans (B0.out.mono L7.out.size))
    clear hcol hrow hnil hv hK E7 F7 R7 X7 L7 B8 B9 B10 BX BX9 BX10 HA N9
    go_upto_region 12 with fail
    have b1 := (Below.refl W.heap.size W).alloc (Nat.le_refl _) (.cells #[.int .i64 1, .int .i64 2, .int .i64 2, .int .i64 1, .int .i64 2, .int .i64 2, .int .i64 1, .int .i64 2, .int .i64 2] 3)
    have D1 := hiddenN (D0.out.at.below b1)
    have BX1 := hiddenN (BX0.out.kept (grown_below b1) (by simp))
    have HK1 := hiddenN ((b1.block D (Array.getElem?_eq_some_iff.1 HK.out).1).trans HK.out)
    have E1 := hiddenN (E0.out.below b1)
    have F1 := hiddenN (F0.out.below b1)
    have R1 := hiddenN (R0.out.later b1)
    have X1 := hiddenN (X0.out.below b1)
    have L1 := hiddenN (L0.out.trans (b1.mono L0.out.size))
    have W9 : Hid (At (W.alloc (.cells #[.int .i64 1, .int .i64 2, .int .i64 2, .int .i64 1, .int .i64 2, .int .i64 2, .int .i64 1, .int .i64 2, .int .i64 2] 3)) (some ⟨W.heap.size, 0, none⟩) [1, 2, 2, 1, 2, 2, 1, 2, 2]) := by
      have x := blkA_new 3 W #[.int .i64 1, .int .i64 2, .int .i64 2, .int .i64 1, .int .i64 2, .int .i64 2, .int .i64 1, .int .i64 2, .int .i64 2]
      refine .inr ⟨_, 0, rfl, fun k hk => ?_⟩
      match k, hk with
      | 0, _ => exact x.cell (k := 0) rfl
      | 1, _ => exact x.cell (k := 1) rfl
      | 2, _ => exact x.cell (k := 2) rfl
      | 3, _ => exact x.cell (k := 3) rfl
      | 4, _ => exact x.cell (k := 4) rfl
      | 5, _ => exact x.cell (k := 5) rfl
      | 6, _ => exact x.cell (k := 6) rfl
      | 7, _ => exact x.cell (k := 7) rfl
      | 8, _ => exact x.cell (k := 8) rfl
    obtain ⟨wb, hwb⟩ : ∃ q, W.heap.size = q := ⟨_, rfl⟩
    rw [hwb] at W9 ⊢
    clear b1 hwb D0 BX0 HK E0 F0 R0 X0 L0
    generalize W.alloc (.cells #[.int .i64 1, .int .i64 2, .int .i64 2, .int .i64 1, .int .i64 2, .int .i64 2, .int .i64 1, .int .i64 2, .int .i64 2] 3) = W1 at *
    have y0 := X1.out.cell (k := 0) rfl
    have y1 := X1.out.cell (k := 1) rfl
    have y2 := X1.out.cell (k := 2) rfl
    have y3 := X1.out.cell (k := 3) rfl
    simp only [List.getElem_toArray, List.getElem_cons_zero, List.getElem_cons_succ] at y0 y1 y2 y3
    have S1 := hiddenN (SI9.out W1 d5 c5 (some ⟨wb, 0, none⟩) 9 E1.out W9.out)
    go_upto_region 13 with (first
      | (go_at_call 16; (with_reducible refine S1.out.mono ?_); clear S1; rintro e W2 ⟨rfl, b2⟩; have D2 := hiddenN (D1.out.below b2); have W92 := hiddenN (W9.out.below b2); have zb := (BX1.out.kept (grown_below b2) (by simp)).cell; have HK2 := hiddenN ((b2.block D (Array.getElem?_eq_some_iff.1 HK1.out).1).trans HK1.out); have F2 := hiddenN (F1.out.below b2); have R2 := hiddenN (R1.out.later b2); have L2 := hiddenN (L1.out.trans (b2.mono L1.out.size)); have S2 := hiddenN (SI9.out W2 d c9 (some ⟨wb, 0, none⟩) 9 D2.out W92.out); clear b2)
      | (go_at_call 16; (with_reducible refine S2.out.mono ?_); clear S2; rintro e W3 ⟨rfl, b3⟩; have HK3 := hiddenN ((b3.block D (Array.getElem?_eq_some_iff.1 HK2.out).1).trans HK2.out); have R3 := hiddenN (R2.out.later b3); have L3 := hiddenN (L2.out.trans (b3.mono L2.out.size)); have S3 := hiddenN (SI3.out W3 d7 c7 (F2.out.below b3)); clear b3)
      | (go_at_call 16; (with_reducible refine S3.out.mono ?_); clear S3; rintro e W4 ⟨rfl, b4⟩; have HK4 := hiddenN ((b4.block D (Array.getElem?_eq_some_iff.1 HK3.out).1).trans HK3.out); have R4 := hiddenN (R3.out.later b4); have L4 := hiddenN (L3.out.trans (b4.mono L3.out.size)); clear b4))
    clear y0 y1 y2 y3 zb
    go_upto_region 14 with (first
      | (go_at_call 35; (with_reducible refine (IS.out W4).mono ?_); rintro e W5 ⟨g5, rfl, hn5, b5⟩; have N5 := hiddenN hn5; have HK5 := hiddenN ((b5.block D (Array.getElem?_eq_some_iff.1 HK4.out).1).trans HK4.out); have R5 := hiddenN (R4.out.later b5); have L5 := hiddenN (L4.out.trans (b5.mono L4.out.size)); have CK5 := hiddenN (CK.out W5 g5 N5.out); clear hn5 b5)
      | (go_at_call 25; (with_reducible refine CK5.out.mono ?_); clear CK5; rintro e W6 ⟨rfl, b6⟩; have HK6 := hiddenN ((b6.block D (Array.getElem?_eq_some_iff.1 HK5.out).1).trans HK5.out); have R6 := hiddenN (R5.out.later b6); have L6 := hiddenN (L5.out.trans (b6.mono L5.out.size)); have C06 := hiddenN (C0.out W6); clear b6)
      | (go_at_call 25; (with_reducible refine C06.out.mono ?_); clear C06; rintro e W7 ⟨rfl, b7⟩; have HK7 := hiddenN ((b7.block D (Array.getElem?_eq_some_iff.1 HK6.out).1).trans HK6.out); have R7 := hiddenN (R6.out.later b7); have L7 := hiddenN (L6.out.trans (b7.mono L6.out.size)); clear b7))
    obtain ⟨g6, rfl⟩ := capY_some R7.out (by simp)
    have r0 := capY_cell0 R7.out (k := 0) (by decide)
    have r1 := capY_cell1 R7.out (k := 0) (by decide)
    rw [show (nthY [(3, 2), (-1, 1), (3, 1)] 0).1 = 3 from rfl, Nat.zero_mul] at r0
    rw [show (nthY [(3, 2), (-1, 1), (3, 1)] 0).2 = 2 from rfl, Nat.zero_mul, Nat.zero_add] at r1
    go_wp2
    refine ⟨by simp, .inl ⟨_, _, rfl, run_takeDeferred HK7.out, ?_⟩⟩
    refine ⟨_, results_tmp rfl _ _ _, ?_⟩
    rw [← HRE.out]
    exact ⟨by first | rfl | simp, L7.out.trans (belowK_b (w := w) (Nat.le_refl _) W7 D _ _ (by have := L1.out.size; have := HLW.out; omega) HK7.out rfl rfl)⟩
end Go.Proofs.Ytmeogapffdgjlaa
