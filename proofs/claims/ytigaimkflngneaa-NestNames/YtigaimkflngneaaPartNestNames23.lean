/- Texts of one chain, laid one behind the other. -/
import Derived.Test.YtigaimkflngneaaPartNestNames15
import Derived.Test.YtigaimkflngneaaPartNestNames22
namespace Go.Proofs.Ytigaimkflngneaa
open Go.ChangeShapes Go.WideShapes Go.ChangeAt Go.RowKit Go.Shelf
attribute [local go_sem] Oper.semAt_some
def inL : List Lp := [⟨3, 0, [⟨1, 1, []⟩, ⟨2, 2, []⟩]⟩]
theorem in_siz : sizZ inL = 3 := by simp [inL, sizZ]
theorem in_lvs : lvsZ inL = 2 := by simp [inL, lvsZ]
theorem in_hds : hdsZ inL = 2 := by simp [inL, hdsZ]
theorem in_dps : dpsZ 0 inL = 1 := by simp [inL, dpsZ]
theorem in_tot : totZ inL = 9 := by simp [inL, totZ]
theorem in_exp : expZ inL = [1, 2, 2, 1, 2, 2, 1, 2, 2] := by simp [inL, expZ, repZ, List.replicate]
theorem in_err : errZ 0 0 inL = 0 := by simp [inL, errZ, flwZ, lvsZ]
theorem in_chk : chkZ inL = 0 := by unfold chkZ; rw [in_err, in_tot]; rfl
theorem in_kept : keptZ inL = inL := by unfold keptZ; rw [if_pos in_chk]
theorem in_sizV : sizV inL = .agg #[.int .i64 2, .int .i64 2, .int .i64 1, .int .i64 9] := by unfold sizV; rw [if_pos in_chk, in_lvs, in_hds, in_dps, in_tot]; rfl
theorem zero_chk : chkZ [⟨0, 0, []⟩] = 160 := by unfold chkZ; simp [errZ, flwZ]
theorem runs_four : runsY [3, 3, -1, 3] = [(3, 2), (-1, 1), (3, 1)] := by decide
theorem flat_two : chkY [(3, 2), (1, 1)] = 0 ∧ flatsY [(3, 2), (1, 1)] = [3, 3, 1] := by decide
set_option maxRecDepth 100000 in
theorem insideZ_any (w : World) : Calls Try.prog 20 #[] w fun e w' => ∃ g, e = .returned (.slice (some ⟨g, 0, none⟩) 1 1) ∧ Nst (· < w'.heap.size) false w' (some ⟨g, 0, none⟩) inL ∧ Below w.heap.size w w' := by
  have b1 := (Below.refl w.heap.size w).alloc (Nat.le_refl _) (.cells #[.int .i64 1, .int .i64 1, .slice none 0 0, .int .i64 2, .int .i64 2, .slice none 0 0] 43)
  have b2 := b1.alloc b1.size (.cells #[.int .i64 3, .int .i64 0, .slice (some ⟨w.heap.size, 0, none⟩) 2 2] 43)
  have hz : (w.alloc (.cells #[.int .i64 1, .int .i64 1, .slice none 0 0, .int .i64 2, .int .i64 2, .slice none 0 0] 43)).heap.size = w.heap.size + 1 := World.size_alloc _ _
  have x1 := (blkA_new 43 w #[.int .i64 1, .int .i64 1, .slice none 0 0, .int .i64 2, .int .i64 2, .slice none 0 0]).below ((Below.refl _ _).alloc (Nat.le_refl _) (.cells #[.int .i64 3, .int .i64 0, .slice (some ⟨w.heap.size, 0, none⟩) 2 2] 43))
  have x2 := blkA_new 43 (w.alloc (.cells #[.int .i64 1, .int .i64 1, .slice none 0 0, .int .i64 2, .int .i64 2, .slice none 0 0] 43)) #[.int .i64 3, .int .i64 0, .slice (some ⟨w.heap.size, 0, none⟩) 2 2]
  have hz2 : ((w.alloc (.cells #[.int .i64 1, .int .i64 1, .slice none 0 0, .int .i64 2, .int .i64 2, .slice none 0 0] 43)).alloc (.cells #[.int .i64 3, .int .i64 0, .slice (some ⟨w.heap.size, 0, none⟩) 2 2] 43)).heap.size = w.heap.size + 1 + 1 := by rw [World.size_alloc, hz]
  rw [hz] at x2
  have HN : Hid (Nst (· < w.heap.size + 1 + 1) false ((w.alloc (.cells #[.int .i64 1, .int .i64 1, .slice none 0 0, .int .i64 2, .int .i64 2, .slice none 0 0] 43)).alloc (.cells #[.int .i64 3, .int .i64 0, .slice (some ⟨w.heap.size, 0, none⟩) 2 2] 43)) (some ⟨w.heap.size + 1, 0, none⟩) inL) := by
    refine .inr ⟨_, 0, rfl, ?_⟩
    unfold inL
    rw [nst_cons, nst_nil]
    refine ⟨Nat.lt_succ_self _, x2.cell (k := 0) rfl, x2.cell (k := 1) rfl, ⟨_, 2, x2.cell (k := 2) rfl, .inr ⟨w.heap.size, 0, rfl, (fun e => by cases e), ?_⟩⟩, fun e => by cases e⟩
    rw [nst_cons, nst_cons, nst_nil]
    exact ⟨Nat.lt_succ_of_lt (Nat.lt_succ_self _), x1.cell (k := 0) rfl, x1.cell (k := 1) rfl, ⟨none, 0, x1.cell (k := 2) rfl, .inl rfl⟩, Nat.lt_succ_of_lt (Nat.lt_succ_self _), x1.cell (k := 3) rfl, x1.cell (k := 4) rfl, ⟨none, 0, x1.cell (k := 5) rfl, .inl rfl⟩, fun e => by cases e⟩
  have B2 := hiddenN b2
  have HZ := hiddenN hz2
  clear b1 b2 x1 x2 hz hz2
  go_enter Try.func20, Try.ntmps20
  go_wp2
  go_ret
  exact ⟨_, rfl, by rw [HZ.out]; exact HN.out, B2.out⟩
attribute [local go_sem] Oper.semAt_some
theorem measIn (u : World) (g : Nat) (h : Nst (· < u.heap.size) false u (some ⟨g, 0, none⟩) inL) : Calls Try.prog 19 #[.slice (some ⟨g, 0, none⟩) 1 1] u fun e w' => e = .returned (.tuple #[.agg #[.int .i64 2, .int .i64 2, .int .i64 1, .int .i64 9], .int .i64 0]) ∧ Below u.heap.size u w' := by
  have := measZ_any inL false (some ⟨g, 0, none⟩) 1 u h (by rw [in_siz]; decide)
  rw [in_sizV, in_chk] at this
  exact this
theorem checkIn (u : World) (g : Nat) (h : Nst (· < u.heap.size) false u (some ⟨g, 0, none⟩) inL) : Calls Try.prog 18 #[.slice (some ⟨g, 0, none⟩) 1 1] u fun e w' => e = .returned (.int .i64 0) ∧ Below u.heap.size u w' := by
  have := checkZ_any inL false (some ⟨g, 0, none⟩) 1 u h (by rw [in_siz]; decide)
  rw [in_chk] at this
  exact this
theorem expIn (u : World) (g : Nat) (h : Nst (· < u.heap.size) false u (some ⟨g, 0, none⟩) inL) : Calls Try.prog 21 #[.slice (some ⟨g, 0, none⟩) 1 1] u fun e w' => ∃ d c, e = .returned (.tuple #[.slice d 9 c, .int .i64 0]) ∧ CapR u.heap.size w' d c [1, 2, 2, 1, 2, 2, 1, 2, 2] ∧ Below u.heap.size u w' := by
  have := expandZ_any inL false (some ⟨g, 0, none⟩) 1 u h (by rw [in_siz]; decide)
  unfold ExpE at this
  rw [in_chk, in_kept, in_exp] at this
  exact this
theorem allIn (u : World) (g : Nat) (h : Nst (· < u.heap.size) false u (some ⟨g, 0, none⟩) inL) : Calls Try.prog 22 #[.slice (some ⟨g, 0, none⟩) 1 1] u fun e w' => ∃ kb, e = .returned (.func (.func 27) #[] #[.pointer (some ⟨kb, 0, none⟩)]) ∧ AllZ u.heap.size w' kb inL ∧ Below u.heap.size u w' :=
  allZ_any inL false (some ⟨g, 0, none⟩) 1 u h (by rw [in_siz]; decide)
theorem checkNo (u : World) : Calls Try.prog 18 #[.slice (some ⟨u.heap.size, 0, none⟩) 1 1] (u.alloc (.cells #[.int .i64 0, .int .i64 0, .slice none 0 0] 43)) fun e w' => e = .returned (.int .i64 160) ∧ Below u.heap.size u w' := by
  have x := blkA_new 43 u #[.int .i64 0, .int .i64 0, .slice none 0 0]
  have hz : (u.alloc (.cells #[.int .i64 0, .int .i64 0, .slice none 0 0] 43)).heap.size = u.heap.size + 1 := World.size_alloc _ _
  have := checkZ_any [⟨0, 0, []⟩] false (some ⟨u.heap.size, 0, none⟩) 1 _ (.inr ⟨_, 0, rfl, nst_cons.2 ⟨(by show _ < _; rw [hz]; exact Nat.lt_succ_self _), x.cell (k := 0) rfl, x.cell (k := 1) rfl, ⟨none, 0, x.cell (k := 2) rfl, .inl rfl⟩, nst_nil.2 (fun e => by cases e)⟩⟩) (by simp [sizZ])
  rw [zero_chk] at this
  refine this.mono fun e w' ⟨h1, h2⟩ => ⟨h1, ?_⟩
  exact ((Below.refl u.heap.size u).alloc (Nat.le_refl _) _).trans (h2.mono (by rw [hz]; exact Nat.le_succ _))
theorem runsIn (u : World) : Calls Try.prog 8 #[.slice (some ⟨u.heap.size, 0, none⟩) 4 4] (u.alloc (.cells #[.int .i64 3, .int .i64 3, .int .i64 (-1), .int .i64 3] 3)) fun e w' => ∃ d c, e = .returned (.slice d 3 c) ∧ CapY u.heap.size w' d c [(3, 2), (-1, 1), (3, 1)] ∧ Below u.heap.size u w' := by
  have x := blkA_new 3 u #[.int .i64 3, .int .i64 3, .int .i64 (-1), .int .i64 3]
  have hz : (u.alloc (.cells #[.int .i64 3, .int .i64 3, .int .i64 (-1), .int .i64 3] 3)).heap.size = u.heap.size + 1 := World.size_alloc _ _
  have := runsZ_any (some ⟨u.heap.size, 0, none⟩) [3, 3, -1, 3] 4 _ (.inr ⟨_, 0, rfl, fun k hk => by
    match k, hk with
    | 0, _ => exact x.cell (k := 0) rfl
    | 1, _ => exact x.cell (k := 1) rfl
    | 2, _ => exact x.cell (k := 2) rfl
    | 3, _ => exact x.cell (k := 3) rfl⟩) (by decide)
  unfold RunE at this
  rw [runs_four, hz] at this
  refine this.mono fun e w' ⟨d, c, h1, h2, h3⟩ => ⟨d, c, h1, h2.mono (Nat.le_succ _), ?_⟩
  exact ((Below.refl u.heap.size u).alloc (Nat.le_refl _) _).trans (h3.mono (Nat.le_succ _))
theorem flatIn (u : World) : Calls Try.prog 13 #[.slice (some ⟨u.heap.size, 0, none⟩) 2 2] (u.alloc (.cells #[.int .i64 3, .int .i64 2, .int .i64 1, .int .i64 1] 29)) fun e w' => ∃ d c, e = .returned (.tuple #[.slice d 3 c, .int .i64 0]) ∧ CapR u.heap.size w' d c [3, 3, 1] ∧ Below u.heap.size u w' := by
  have x := blkA_new 29 u #[.int .i64 3, .int .i64 2, .int .i64 1, .int .i64 1]
  have hz : (u.alloc (.cells #[.int .i64 3, .int .i64 2, .int .i64 1, .int .i64 1] 29)).heap.size = u.heap.size + 1 := World.size_alloc _ _
  have := flatZ_any (some ⟨u.heap.size, 0, none⟩) [(3, 2), (1, 1)] 2 _ (.inr ⟨_, 0, rfl, fun k hk => by
    match k, hk with
    | 0, _ => exact ⟨x.cell (k := 0) rfl, x.cell (k := 1) rfl⟩
    | 1, _ => exact ⟨x.cell (k := 2) rfl, x.cell (k := 3) rfl⟩⟩) (by decide)
  unfold FlaE at this
  rw [flat_two.1, flat_two.2, if_pos rfl, hz] at this
  refine this.mono fun e w' ⟨d, c, h1, h2, h3⟩ => ⟨d, c, h1, h2.mono (Nat.le_succ _), ?_⟩
  exact ((Below.refl u.heap.size u).alloc (Nat.le_refl _) _).trans (h3.mono (Nat.le_succ _))
theorem sameNine (U : World) (a1 : Option Addr) (c1 : Nat) (a2 : Option Addr) (c2 : Nat) (h1 : At U a1 [1, 2, 2, 1, 2, 2, 1, 2, 2]) (h2 : At U a2 [1, 2, 2, 1, 2, 2, 1, 2, 2]) : Calls Try.prog 15 #[.slice a1 9 c1, .slice a2 9 c2] U fun e w' => e = .returned (.bool true) ∧ Below U.heap.size U w' := sameN U a1 a2 [1, 2, 2, 1, 2, 2, 1, 2, 2] c1 c2 (by decide) h1 h2
theorem sameThree (U : World) (a1 : Option Addr) (c1 : Nat) (h1 : At U a1 [3, 3, 1]) : Calls Try.prog 15 #[.slice a1 3 c1, .slice (some ⟨U.heap.size, 0, none⟩) 3 3] (U.alloc (.cells #[.int .i64 3, .int .i64 3, .int .i64 1] 3)) fun e w' => e = .returned (.bool true) ∧ Below U.heap.size U w' := by
  have x := blkA_new 3 U #[.int .i64 3, .int .i64 3, .int .i64 1]
  have b := (Below.refl U.heap.size U).alloc (Nat.le_refl _) (.cells #[.int .i64 3, .int .i64 3, .int .i64 1] 3)
  refine (sameN _ a1 (some ⟨U.heap.size, 0, none⟩) [3, 3, 1] c1 3 (by decide) (h1.below b) (.inr ⟨_, 0, rfl, fun k hk => ?_⟩)).mono fun e w' ⟨h1, h2⟩ => ⟨h1, b.trans (h2.mono b.size)⟩
  match k, hk with
  | 0, _ => exact x.cell (k := 0) rfl
  | 1, _ => exact x.cell (k := 1) rfl
  | 2, _ => exact x.cell (k := 2) rfl
set_option maxRecDepth 100000 in
set_option maxHeartbeats 16000000 in
theorem awake16 (w : World) : Calls Try.prog 11 #[] w fun e w' => e = .returned (.bool true) ∧ Below w.heap.size w w' := by
  have IS := hiddenN insideZ_any
  have ME := hiddenN measIn
  have EX := hiddenN expIn
  have AL := hiddenN allIn
  have CK := hiddenN checkIn
  have C0 := hiddenN checkNo
  have RU := hiddenN runsIn
  have FL := hiddenN flatIn
  have SI9 := hiddenN sameNine
  have SI3 := hiddenN sameThree
  obtain ⟨RE, hRE⟩ : ∃ Q : Ending → World → Prop, (fun e w' => e = .returned (.bool true) ∧ Below w.heap.size w w') = Q := ⟨_, rfl⟩
  rw [hRE]
  have HRE := hiddenN hRE
  clear hRE
  obtain ⟨i0, hi, hz0, hz1, hz2⟩ := info_parts Try.info3
  refine (callsIn_wide (n := 9)).1 (callsIn_of_wp_marks Try.func11 rfl trivial ?_ rfl)
  simp only [Try.ntmps11, List.size_toArray, List.length_nil, Nat.reduceSub, Array.replicate_succ, Array.replicate_zero, List.push_toArray, List.append_toArray, List.nil_append, List.cons_append]
  refine wpIn_wide.2 ?_
  go_upto_region 2 with (first
    | (go_at_call 20; (with_reducible refine (IS.out _).mono ?_); rintro e V1 ⟨g1, rfl, hn1, b1⟩; have N1 := hiddenN hn1; have L1 := hiddenN b1; clear hn1 b1)
    | (go_at_call 19; (with_reducible refine (ME.out V1 g1 N1.out).mono ?_); rintro e V2 ⟨rfl, b2⟩; have L2 := hiddenN (L1.out.trans (b2.mono L1.out.size)); clear b2))
  have X2 := hiddenN (blkA_new 45 V2 #[.int .i64 2, .int .i64 2, .int .i64 1, .int .i64 9])
  have L3 := hiddenN (L2.out.alloc L2.out.size (.cells #[.int .i64 2, .int .i64 2, .int .i64 1, .int .i64 9] 45))
  obtain ⟨x1, hx1⟩ : ∃ q, V2.heap.size = q := ⟨_, rfl⟩
  rw [hx1] at X2 ⊢
  clear hx1 L1 N1
  generalize V2.alloc (.cells #[.int .i64 2, .int .i64 2, .int .i64 1, .int .i64 9] 45) = V3 at *
  go_upto_region 3 with (first
    | (go_at_call 20; (with_reducible refine (IS.out V3).mono ?_); rintro e V4 ⟨g4, rfl, hn4, b4⟩; have N4 := hiddenN hn4; have L4 := hiddenN (L3.out.trans (b4.mono L3.out.size)); have X4 := hiddenN (X2.out.below b4); clear hn4 b4)
    | (go_at_call 21; (with_reducible refine (EX.out V4 g4 N4.out).mono ?_); rintro e V5 ⟨d5, c5, rfl, hc5, b5⟩; have E5 := hiddenN hc5.at; have L5 := hiddenN (L4.out.trans (b5.mono L4.out.size)); have X5 := hiddenN (X4.out.below b5); clear hc5 b5))
  clear L3 L4 X2 X4 N4
  have RU5 := hiddenN (RU.out V5)
  go_upto_region 4 with (go_at_call 8; (with_reducible refine RU5.out.mono ?_); rintro e V6 ⟨d6, c6, rfl, hc6, b6⟩; have R6 := hiddenN hc6; have L6 := hiddenN (L5.out.trans (b6.mono L5.out.size)); have X6 := hiddenN (X5.out.below b6); have E6 := hiddenN (E5.out.below b6); clear hc6 b6)
  have FL6 := hiddenN (FL.out V6)
  go_upto_region 7 with (go_at_call 13; (with_reducible refine FL6.out.mono ?_); rintro e V7 ⟨d7, c7, rfl, hc7, b7⟩; have F7 := hiddenN hc7.at; have L7 := hiddenN (L6.out.trans (b7.mono L6.out.size)); have X7 := hiddenN (X6.out.below b7); have E7 := hiddenN (E6.out.below b7); have R7 := hiddenN (R6.out.later b7); clear hc7 b7)
  clear L5 L6 X5 X6 E5 E6 R6 RU5 FL6
  have b8 := (Below.refl V7.heap.size V7).alloc (Nat.le_refl _) (.cells #[.slice none 0 0] 22)
  have B8 := hiddenN b8
  have BX := hiddenN (Boxed.new V7 22 (.slice none 0 0))
  go_upto_region 8 with fail
  obtain ⟨lb, hlb⟩ : ∃ q, V7.heap.size = q := ⟨_, rfl⟩
  have HLB := hiddenN hlb
  rw [hlb] at BX ⊢
  clear b8 hlb
  generalize V7.alloc (.cells #[.slice none 0 0] 22) = V8 at *
  go_wp2_with (first
    | (go_at_call 20; (with_reducible refine (IS.out V8).mono ?_); rintro e V9 ⟨g9, rfl, hn9, b9⟩; have N9 := hiddenN hn9; have B9 := hiddenN (B8.out.trans (b9.mono B8.out.size)); have BX9 := hiddenN (BX.out.kept (grown_below b9) (by simp)); clear hn9 b9)
    | (go_at_call 22; (with_reducible refine (AL.out V9 g9 N9.out).mono ?_); rintro e V10 ⟨kb, rfl, ha, b10⟩; have HA := hiddenN ha; have B10 := hiddenN (B9.out.trans (b10.mono B9.out.size)); have BX10 := hiddenN (BX9.out.kept (grown_below b10) (by simp)); clear ha b10))
  have hT9 : Hid (totZ (keptZ inL) = 9) := by show _ = _; rw [in_kept, in_tot]
  have hE9 : Hid (expZ (keptZ inL) = [1, 2, 2, 1, 2, 2, 1, 2, 2]) := by show _ = _; rw [in_kept, in_exp]
  have HLW : Hid (w.heap.size ≤ V10.heap.size) := Nat.le_trans L7.out.size B10.out.size
  have hlb2 : V7.heap.size ≤ lb := by rw [HLB.out]; exact Nat.le_refl _
  refine rangeZ 9 rfl (enters_of Try.func27 (by kernel_rfl) rfl) (allZ_stops (9 - 1) V9.heap.size V10 kb inL HA.out (by rw [in_siz]; decide)) (fun h k => KpZ.trans h k) (kpZ_b (w := V10))
    (fun pre W => ColZ V7.heap.size V7 V10 lb pre W) (fun _ _ _ => False) (ColZ.own B10.out.size (Nat.le_refl _)) (fun _ _ _ _ _ hs _ _ => hs) ⟨⟨_, BX10.out, World.ownsRow_nil _ _ _ _, fun _ => rfl⟩, B10.out, KpZ.refl _ _⟩ ?assign ?body ?done ?stop
  case assign =>
    intro l9 x W K hK
    simp only [List.setIfInBounds_toArray, List.set_cons_zero, List.set_cons_succ] at hK ⊢
    gi_wp2
    exact hK
  case body =>
    rintro l9 pre x W hcol hlt
    simp only [List.setIfInBounds_toArray, List.set_cons_zero, List.set_cons_succ]
    obtain ⟨v, hv, hrow, hnil⟩ := hcol.box
    have hB := hcol.below
    have hc := hv.cell
    rw [hT9.out] at hlt
    gi_wp2_with (gi_at_builtin; refine wpListIn_append_own _ rfl _ _ 22 rfl V7.heap.size 3 i0 (.int .i64 0) 1 8 Try.underlying22 hi hz0 hz1 hz2 rfl (by decide) _ _ _ rfl (hrow.alloc _) ⟨W.heap.size, 0, none⟩ 1 1 [.int .i64 x] rfl rfl (cell_one_new _ _ _) (by simp [Value.oneCell']) (by unfold maxLen; omega) (by omega) (by have := hB.size; simp; omega) ?_; intro v' w1 hown' hgrow _; obtain ⟨g', cap', rfl⟩ := ownsRow_succ hown'; obtain ⟨hv1, hk2, hkp, hcol2⟩ := hcol.step hv hrow hlb2 hB.size (by intro e; cases e) hown' hgrow; have hc1 := hv1.cell; have hf1 := hv1.frozen)
    exact ⟨hk2, hkp, hcol2⟩
  case stop =>
    rintro D c' pre W _ _ h _
    exact h.elim
  case done =>
    rintro D ys W hD rfl hcol hK
    rw [hE9.out] at hcol
    obtain ⟨v, hv, hrow, hnil⟩ := hcol.box
    obtain ⟨d, c9, rfl⟩ : ∃ d c9, v = .slice d 9 c9 := row_slice hrow
    have D0 : Hid (CapR V7.heap.size W d c9 [1, 2, 2, 1, 2, 2, 1, 2, 2]) := hrow
    have BX0 := hiddenN hv
    have B0 := hiddenN hcol.below
    have HK := hiddenN hK
    have E0 := hiddenN (E7.out.below B0.out)
    have F0 := hiddenN (F7.out.below B0.out)
    have R0 := hiddenN (R7.out.later B0.out)
    have X0 := hiddenN (X7.out.below B0.out)
    have L0 := hiddenN (L7.out.trans (B0.out.mono L7.out.size))
    clear hcol hrow hnil hv hK E7 F7 R7 X7 L7 B8 B9 B10 BX BX9 BX10 HA N9
    go_upto_region 12 with fail
    have b1 := (Below.refl W.heap.size W).alloc (Nat.le_refl _) (.cells #[.int .i64 1, .int .i64 2, .int .i64 2, .int .i64 1, .int .i64 2, .int .i64 2, .int .i64 1, .int .i64 2, .int .i64 2] 3)
    have D1 := hiddenN (D0.out.at.below b1)
    have BX1 := hiddenN (BX0.out.kept (grown_below b1) (by simp))
    have HK1 := hiddenN ((b1.block D (Array.getElem?_eq_some_iff.1 HK.out).1).trans HK.out)
    have E1 := hiddenN (E0.out.below b1)
    have F1 := hiddenN (F0.out.below b1)
    have R1 := hiddenN (R0.out.later b1)
    have X1 := hiddenN (X0.out.below b1)
    have L1 := hiddenN (L0.out.trans (b1.mono L0.out.size))
    have W9 : Hid (At (W.alloc (.cells #[.int .i64 1, .int .i64 2, .int .i64 2, .int .i64 1, .int .i64 2, .int .i64 2, .int .i64 1, .int .i64 2, .int .i64 2] 3)) (some ⟨W.heap.size, 0, none⟩) [1, 2, 2, 1, 2, 2, 1, 2, 2]) := by
      have x := blkA_new 3 W #[.int .i64 1, .int .i64 2, .int .i64 2, .int .i64 1, .int .i64 2, .int .i64 2, .int .i64 1, .int .i64 2, .int .i64 2]
      refine .inr ⟨_, 0, rfl, fun k hk => ?_⟩
      match k, hk with
      | 0, _ => exact x.cell (k := 0) rfl
      | 1, _ => exact x.cell (k := 1) rfl
      | 2, _ => exact x.cell (k := 2) rfl
      | 3, _ => exact x.cell (k := 3) rfl
      | 4, _ => exact x.cell (k := 4) rfl
      | 5, _ => exact x.cell (k := 5) rfl
      | 6, _ => exact x.cell (k := 6) rfl
      | 7, _ => exact x.cell (k := 7) rfl
      | 8, _ => exact x.cell (k := 8) rfl
    obtain ⟨wb, hwb⟩ : ∃ q, W.heap.size = q := ⟨_, rfl⟩
    rw [hwb] at W9 ⊢
    clear b1 hwb D0 BX0 HK E0 F0 R0 X0 L0
    generalize W.alloc (.cells #[.int .i64 1, .int .i64 2, .int .i64 2, .int .i64 1, .int .i64 2, .int .i64 2, .int .i64 1, .int .i64 2, .int .i64 2] 3) = W1 at *
    have y0 := X1.out.cell (k := 0) rfl
    have y1 := X1.out.cell (k := 1) rfl
    have y2 := X1.out.cell (k := 2) rfl
    have y3 := X1.out.cell (k := 3) rfl
    simp only [List.getElem_toArray, List.getElem_cons_zero, List.getElem_cons_succ] at y0 y1 y2 y3
    have S1 := hiddenN (SI9.out W1 d5 c5 (some ⟨wb, 0, none⟩) 9 E1.out W9.out)
    go_upto_region 13 with (first
      | (go_at_call 15; (with_reducible refine S1.out.mono ?_); clear S1; rintro e W2 ⟨rfl, b2⟩; have D2 := hiddenN (D1.out.below b2); have W92 := hiddenN (W9.out.below b2); have zb := (BX1.out.kept (grown_below b2) (by simp)).cell; have HK2 := hiddenN ((b2.block D (Array.getElem?_eq_some_iff.1 HK1.out).1).trans HK1.out); have F2 := hiddenN (F1.out.below b2); have R2 := hiddenN (R1.out.later b2); have L2 := hiddenN (L1.out.trans (b2.mono L1.out.size)); have S2 := hiddenN (SI9.out W2 d c9 (some ⟨wb, 0, none⟩) 9 D2.out W92.out); clear b2)
      | (go_at_call 15; (with_reducible refine S2.out.mono ?_); clear S2; rintro e W3 ⟨rfl, b3⟩; have HK3 := hiddenN ((b3.block D (Array.getElem?_eq_some_iff.1 HK2.out).1).trans HK2.out); have R3 := hiddenN (R2.out.later b3); have L3 := hiddenN (L2.out.trans (b3.mono L2.out.size)); have S3 := hiddenN (SI3.out W3 d7 c7 (F2.out.below b3)); clear b3)
      | (go_at_call 15; (with_reducible refine S3.out.mono ?_); clear S3; rintro e W4 ⟨rfl, b4⟩; have HK4 := hiddenN ((b4.block D (Array.getElem?_eq_some_iff.1 HK3.out).1).trans HK3.out); have R4 := hiddenN (R3.out.later b4); have L4 := hiddenN (L3.out.trans (b4.mono L3.out.size)); clear b4))
    clear y0 y1 y2 y3 zb
    go_upto_region 14 with (first
      | (go_at_call 20; (with_reducible refine (IS.out W4).mono ?_); rintro e W5 ⟨g5, rfl, hn5, b5⟩; have N5 := hiddenN hn5; have HK5 := hiddenN ((b5.block D (Array.getElem?_eq_some_iff.1 HK4.out).1).trans HK4.out); have R5 := hiddenN (R4.out.later b5); have L5 := hiddenN (L4.out.trans (b5.mono L4.out.size)); have CK5 := hiddenN (CK.out W5 g5 N5.out); clear hn5 b5)
      | (go_at_call 18; (with_reducible refine CK5.out.mono ?_); clear CK5; rintro e W6 ⟨rfl, b6⟩; have HK6 := hiddenN ((b6.block D (Array.getElem?_eq_some_iff.1 HK5.out).1).trans HK5.out); have R6 := hiddenN (R5.out.later b6); have L6 := hiddenN (L5.out.trans (b6.mono L5.out.size)); have C06 := hiddenN (C0.out W6); clear b6)
      | (go_at_call 18; (with_reducible refine C06.out.mono ?_); clear C06; rintro e W7 ⟨rfl, b7⟩; have HK7 := hiddenN ((b7.block D (Array.getElem?_eq_some_iff.1 HK6.out).1).trans HK6.out); have R7 := hiddenN (R6.out.later b7); have L7 := hiddenN (L6.out.trans (b7.mono L6.out.size)); clear b7))
    obtain ⟨g6, rfl⟩ := capY_some R7.out (by simp)
    have r0 := capY_cell0 R7.out (k := 0) (by decide)
    have r1 := capY_cell1 R7.out (k := 0) (by decide)
    rw [show (nthY [(3, 2), (-1, 1), (3, 1)] 0).1 = 3 from rfl, Nat.zero_mul] at r0
    rw [show (nthY [(3, 2), (-1, 1), (3, 1)] 0).2 = 2 from rfl, Nat.zero_mul, Nat.zero_add] at r1
    go_wp2
    refine ⟨by simp, .inl ⟨_, _, rfl, run_takeDeferred HK7.out, ?_⟩⟩
    refine ⟨_, results_tmp rfl _ _ _, ?_⟩
    rw [← HRE.out]
    exact ⟨by first | rfl | simp, L7.out.trans (belowK_b (w := w) (Nat.le_refl _) W7 D _ _ (by have := L1.out.size; have := HLW.out; omega) HK7.out rfl rfl)⟩
def bdL : Nat → List Lp
  | 0 => []
  | k + 1 => [⟨1, 0, bdL k⟩]
def dpL (k : Nat) : List Lp := [⟨1, 0, bdL k⟩]
theorem one_flawN {d lv : Nat} {x : Lp} {c : Nat} (h : flwZ (if x.body.isEmpty then d else d + 1) lv x.times x.node x.body.isEmpty = c) (hc : c ≠ 0) : oneZ d lv x = c := by
  unfold oneZ
  rw [h, if_pos hc]
theorem one_leafN {d lv : Nat} {x : Lp} (h : flwZ (if x.body.isEmpty then d else d + 1) lv x.times x.node x.body.isEmpty = 0) (he : x.body.isEmpty = true) : oneZ d lv x = 0 := by
  unfold oneZ
  rw [h, if_neg (by decide), if_pos he]
theorem one_blockN {d lv : Nat} {x : Lp} (h : flwZ (if x.body.isEmpty then d else d + 1) lv x.times x.node x.body.isEmpty = 0) (he : ¬ x.body.isEmpty = true) : oneZ d lv x = errZ (d + 1) lv x.body := by
  unfold oneZ
  rw [h, if_neg (by decide), if_neg he]
theorem bd_succ (k : Nat) : bdL (k + 1) = dpL k := rfl
theorem siz_bd : ∀ (k : Nat), sizZ (bdL k) = k
  | 0 => siz_nil
  | k + 1 => by
    show sizZ [⟨1, 0, bdL k⟩] = _
    rw [siz_cons, siz_nil, siz_bd k]
    omega
theorem emp_bd (k : Nat) : (bdL (k + 1)).isEmpty = false := rfl
theorem flw_ok {d : Nat} (h : d ≤ 16) (leaf : Bool) : flwZ d 0 1 0 leaf = 0 := by
  unfold flwZ
  rw [if_neg (by decide), if_neg (by omega), if_neg (by decide), if_neg (fun h => h.2 rfl), if_neg (fun h => h.2 (by decide))]
theorem err_dp : ∀ (k d : Nat), d + k ≤ 16 → errZ d 0 (dpL k) = 0
  | 0, d, h => by
    unfold dpL
    rw [err_cons, one_leafN (by exact flw_ok (by simp [bdL]; omega) _) rfl, if_neg (by decide), err_nil_z]
  | k + 1, d, h => by
    unfold dpL
    rw [err_cons, one_blockN (by exact flw_ok (by rw [emp_bd]; simp; omega) _) (by rw [emp_bd]; decide)]
    show (if errZ (d + 1) 0 (dpL k) ≠ 0 then _ else _) = 0
    rw [err_dp k (d + 1) (by omega), if_neg (by decide), err_nil_z]
theorem err_dq : ∀ (k d : Nat), d ≤ 16 → 16 < d + k → errZ d 0 (dpL k) = 161
  | 0, d, h, h2 => by omega
  | k + 1, d, h, h2 => by
    unfold dpL
    by_cases e : d = 16
    · subst e
      rw [err_cons, one_flawN (c := 161) (by unfold flwZ; rw [if_neg (by decide), emp_bd, if_pos ⟨rfl, by decide⟩]) (by decide), if_pos (by decide)]
    · rw [err_cons, one_blockN (by exact flw_ok (by rw [emp_bd]; simp; omega) _) (by rw [emp_bd]; decide)]
      show (if errZ (d + 1) 0 (dpL k) ≠ 0 then errZ (d + 1) 0 (dpL k) else _) = 161
      rw [err_dq k (d + 1) (by omega) (by omega), if_pos (by decide)]
theorem tot_dp : ∀ (k : Nat), totZ (dpL k) = 1
  | 0 => by simp [dpL, bdL, totZ]
  | k + 1 => by
    unfold dpL
    rw [tot_cons, tot_nil]
    unfold to1
    simp only [emp_bd]
    show 1 * totZ (dpL k) + 0 = 1
    rw [tot_dp k]
theorem chk_dp : chkZ (dpL 16) = 0 := by unfold chkZ; rw [err_dp 16 0 (by decide), tot_dp]; rfl
theorem chk_dq : chkZ (dpL 17) = 161 := by unfold chkZ; rw [err_dq 17 0 (by decide) (by decide)]; rfl
theorem chk_big : chkZ [⟨2049, 0, []⟩] = 5 := by unfold chkZ; simp [errZ, flwZ, totZ]
theorem chk_2048 : chkZ [⟨2048, 0, []⟩] = 0 := by unfold chkZ; simp [errZ, flwZ, totZ]
theorem chk_node : chkZ [⟨1, 32, []⟩] = 100 := by unfold chkZ; simp [errZ, flwZ]
theorem chk_time : chkZ [⟨0, 32, []⟩] = 160 := by unfold chkZ; simp [errZ, flwZ]
theorem chk_form : chkZ [⟨1, 1, [⟨1, 0, []⟩]⟩] = 162 := by unfold chkZ; simp [errZ, flwZ]
theorem nst_one {F : Nat → Prop} {u : World} {t n : Int} {a : Option Addr} {bd : List Lp} {c x : Nat} (hx : F x) (hB : BlkA 43 x u #[.int .i64 t, .int .i64 n, .slice a bd.length c]) (hN : Nst F false u a bd) : Nst F false u (some ⟨x, 0, none⟩) [⟨t, n, bd⟩] := by
  refine .inr ⟨x, 0, rfl, nst_cons.2 ⟨hx, hB.cell (k := 0) rfl, hB.cell (k := 1) rfl, ⟨a, c, hB.cell (k := 2) rfl, ?_⟩, nst_nil.2 (fun e => by cases e)⟩⟩
  rcases hN with h | ⟨b, o, e, h⟩
  · exact .inl h
  · exact .inr ⟨b, o, e, (fun e => by cases e), h⟩
theorem checkOne (u : World) (t n : Int) (a : Option Addr) (bd : List Lp) (c : Nat) (hN : Nst (· < u.heap.size) false u a bd) (hs : sizZ bd ≤ 1000) (E : Nat) (hE : chkZ [⟨t, n, bd⟩] = E) (k : Nat) (hk : bd.length = k) : Calls Try.prog 18 #[.slice (some ⟨u.heap.size, 0, none⟩) 1 1] (u.alloc (.cells #[.int .i64 t, .int .i64 n, .slice a k c] 43)) fun e w' => e = .returned (.int .i64 (E : Int)) ∧ Below u.heap.size u w' := by
  subst hk
  have b := (Below.refl u.heap.size u).alloc (Nat.le_refl _) (.cells #[.int .i64 t, .int .i64 n, .slice a bd.length c] 43)
  have hz : (u.alloc (.cells #[.int .i64 t, .int .i64 n, .slice a bd.length c] 43)).heap.size = u.heap.size + 1 := World.size_alloc _ _
  have := checkZ_any [⟨t, n, bd⟩] false (some ⟨u.heap.size, 0, none⟩) 1 _ (nst_one (F := (· < (u.alloc (.cells #[.int .i64 t, .int .i64 n, .slice a bd.length c] 43)).heap.size)) (by show _ < _; rw [hz]; exact Nat.lt_succ_self _) (blkA_new 43 u _) ((hN.below b).mono fun k hk => by show _ < _; rw [hz]; exact Nat.lt_succ_of_lt hk)) (by rw [siz_cons, siz_nil]; simp only; omega)
  rw [hE] at this
  exact this.mono fun e w' ⟨h1, h2⟩ => ⟨h1, b.trans (h2.mono b.size)⟩
theorem blkA_set3 {T : TypeId} {k : Nat} {W : World} {a b c : Value} (h : BlkA T k W #[a, b, c]) (x y z : Value) : BlkA T k (((W.setCell ⟨k, 0, none⟩ x).setCell ⟨k, 1, none⟩ y).setCell ⟨k, 2, none⟩ z) #[x, y, z] := ((h.set 0 x).set 1 y).set 2 z
theorem but_set3 (W : World) (k : Nat) (x y z : Value) : But k W (((W.setCell ⟨k, 0, none⟩ x).setCell ⟨k, 1, none⟩ y).setCell ⟨k, 2, none⟩ z) := ((But.set W k 0 x).trans (But.set _ k 1 y)).trans (But.set _ k 2 z)
set_option maxRecDepth 100000 in
set_option maxHeartbeats 16000000 in
theorem nestNames_walk (w : World) : Calls Try.prog 6 #[] w fun e w' => e = .returned (.bool true) ∧ Below w.heap.size w w' := by
  have AW := hiddenN awake16
  have K1 := hiddenN (fun u => checkOne u 2049 0 none [] 0 (.inl rfl) (by rw [siz_nil]; decide) 5 chk_big 0 rfl)
  have K2 := hiddenN (fun u => checkOne u 1 32 none [] 0 (.inl rfl) (by rw [siz_nil]; decide) 100 chk_node 0 rfl)
  have K3 := hiddenN (fun u => checkOne u 0 32 none [] 0 (.inl rfl) (by rw [siz_nil]; decide) 160 chk_time 0 rfl)
  have K5 := hiddenN (fun u => checkOne u 2048 0 none [] 0 (.inl rfl) (by rw [siz_nil]; decide) 0 chk_2048 0 rfl)
  have K4 : Hid (∀ u : World, Calls Try.prog 18 #[.slice (some ⟨u.heap.size + 1, 0, none⟩) 1 1] ((u.alloc (.cells #[.int .i64 1, .int .i64 0, .slice none 0 0] 43)).alloc (.cells #[.int .i64 1, .int .i64 1, .slice (some ⟨u.heap.size, 0, none⟩) 1 1] 43)) fun e w' => e = .returned (.int .i64 162) ∧ Below u.heap.size u w') := fun u => by
    have b := (Below.refl u.heap.size u).alloc (Nat.le_refl _) (.cells #[.int .i64 1, .int .i64 0, .slice none 0 0] 43)
    have hz : (u.alloc (.cells #[.int .i64 1, .int .i64 0, .slice none 0 0] 43)).heap.size = u.heap.size + 1 := World.size_alloc _ _
    have := checkOne (u.alloc (.cells #[.int .i64 1, .int .i64 0, .slice none 0 0] 43)) 1 1 (some ⟨u.heap.size, 0, none⟩) [⟨1, 0, []⟩] 1 (nst_one (by show _ < _; rw [hz]; exact Nat.lt_succ_self _) (blkA_new 43 u _) (.inl rfl)) (by simp [sizZ]) 162 chk_form 1 rfl
    rw [hz] at this
    exact this.mono fun e w' ⟨h1, h2⟩ => ⟨h1, b.trans (h2.mono (Nat.le_succ _))⟩
  have K6 : Hid (∀ (u : World) (a : Option Addr) (c : Nat), Nst (· < u.heap.size) false u a (bdL 16) → Calls Try.prog 18 #[.slice (some ⟨u.heap.size, 0, none⟩) 1 1] (u.alloc (.cells #[.int .i64 1, .int .i64 0, .slice a 1 c] 43)) fun e w' => e = .returned (.int .i64 0) ∧ Below u.heap.size u w') := fun u a c h => checkOne u 1 0 a (bdL 16) c h (by rw [siz_bd]; decide) 0 chk_dp 1 rfl
  have K7 : Hid (∀ (u : World) (a : Option Addr) (c : Nat), Nst (· < u.heap.size) false u a (bdL 16) → Calls Try.prog 18 #[.slice (some ⟨u.heap.size + 1, 0, none⟩) 1 1] ((u.alloc (.cells #[.int .i64 1, .int .i64 0, .slice a 1 c] 43)).alloc (.cells #[.int .i64 1, .int .i64 0, .slice (some ⟨u.heap.size, 0, none⟩) 1 1] 43)) fun e w' => e = .returned (.int .i64 161) ∧ Below u.heap.size u w') := fun u a c h => by
    have b := (Below.refl u.heap.size u).alloc (Nat.le_refl _) (.cells #[.int .i64 1, .int .i64 0, .slice a 1 c] 43)
    have hz : (u.alloc (.cells #[.int .i64 1, .int .i64 0, .slice a 1 c] 43)).heap.size = u.heap.size + 1 := World.size_alloc _ _
    have := checkOne (u.alloc (.cells #[.int .i64 1, .int .i64 0, .slice a 1 c] 43)) 1 0 (some ⟨u.heap.size, 0, none⟩) (dpL 16) 1 (nst_one (by show _ < _; rw [hz]; exact Nat.lt_succ_self _) (blkA_new 43 u _) ((h.below b).mono fun k hk => by show _ < _; rw [hz]; exact Nat.lt_succ_of_lt hk)) (by rw [← bd_succ, siz_bd]; decide) 161 chk_dq 1 rfl
    rw [hz] at this
    exact this.mono fun e w' ⟨h1, h2⟩ => ⟨h1, b.trans (h2.mono (Nat.le_succ _))⟩
  obtain ⟨RE, hRE⟩ : ∃ Q : Ending → World → Prop, (fun e w' => e = .returned (.bool true) ∧ Below w.heap.size w w') = Q := ⟨_, rfl⟩
  rw [hRE]
  have HRE := hiddenN hRE
  clear hRE
  have k1 := hiddenN (K1.out w)
  go_enter Try.func6, Try.ntmps6
  go_upto_region 2 with (go_at_call 18; (with_reducible refine k1.out.mono ?_); rintro e V1 ⟨rfl, b⟩; have L1 := hiddenN b; clear b)
  have k2 := hiddenN (K2.out V1)
  go_upto_region 3 with (go_at_call 18; (with_reducible refine k2.out.mono ?_); rintro e V2 ⟨rfl, b⟩; have L2 := hiddenN (L1.out.trans (b.mono L1.out.size)); clear b)
  have k3 := hiddenN (K3.out V2)
  go_upto_region 4 with (go_at_call 18; (with_reducible refine k3.out.mono ?_); rintro e V3 ⟨rfl, b⟩; have L3 := hiddenN (L2.out.trans (b.mono L2.out.size)); clear b)
  have k4 := hiddenN (K4.out V3)
  go_upto_region 5 with (go_at_call 18; (with_reducible refine k4.out.mono ?_); rintro e V4 ⟨rfl, b⟩; have L4 := hiddenN (L3.out.trans (b.mono L3.out.size)); clear b)
  clear k1 k2 k3 k4 K1 K2 K3 K4 L1 L2 L3
  have X5 := hiddenN (blkA_new 43 V4 #[.int .i64 1, .int .i64 0, .slice none 0 0])
  have L5 := hiddenN (L4.out.alloc L4.out.size (.cells #[.int .i64 1, .int .i64 0, .slice none 0 0] 43))
  go_upto_region 6 with fail
  obtain ⟨xb, hxb⟩ : ∃ q, V4.heap.size = q := ⟨_, rfl⟩
  have hwx : w.heap.size ≤ xb := by rw [← hxb]; exact L4.out.size
  rw [hxb] at X5 ⊢
  clear hxb L4
  generalize V4.alloc (.cells #[.int .i64 1, .int .i64 0, .slice none 0 0] 43) = V5 at *
  go_wp2
  go_loopg [6] 16 (fun gk iv wr => ∃ (i K c : Nat) (a : Option Addr), i ≤ 16 ∧ gk = 16 - i ∧ iv = .int .i64 (i : Int) ∧ (bdL i).length = K ∧ BlkA 43 xb wr #[.int .i64 1, .int .i64 0, .slice a K c] ∧ Nst (fun k => k < wr.heap.size ∧ k ≠ xb) false wr a (bdL i) ∧ Below w.heap.size w wr)
  case atStart => exact ⟨0, 0, 0, none, Nat.zero_le _, rfl, rfl, rfl, X5.out, .inl rfl, L5.out⟩
  case round =>
    clear X5 L5
    obtain ⟨i, K, c, a, hi, rfl, rfl, hK, hX, hN, hb⟩ := hrel
    have HK := hiddenN hK
    have HX := hiddenN hX
    have HN := hiddenN hN
    have HB := hiddenN hb
    have y0 := hX.cell (k := 0) rfl
    have y1 := hX.cell (k := 1) rfl
    have y2 := hX.cell (k := 2) rfl
    simp only [List.getElem_toArray, List.getElem_cons_zero, List.getElem_cons_succ] at y0 y1 y2
    clear hK hX hN hb
    by_cases hlt : i < 16
    · have hiI : (i : Int) < 16 := by omega
      have bA := (Below.refl wr.heap.size wr).alloc (Nat.le_refl _) (.cells #[.int .i64 1, .int .i64 0, .slice a K c] 43)
      have XA := hiddenN (HX.out.below bA)
      have z0 := XA.out.cell (k := 0) rfl
      have z1 := XA.out.cell (k := 1) rfl
      have z2 := XA.out.cell (k := 2) rfl
      simp only [List.getElem_toArray, List.getElem_cons_zero, List.getElem_cons_succ] at z0 z1 z2
      have f0 := XA.out.frozen 0
      have f1 := XA.out.frozen 1
      have f2 := XA.out.frozen 2
      have e0 := HX.out.frozen 0
      have e1 := HX.out.frozen 1
      have e2 := HX.out.frozen 2
      have XG := hiddenN (blkA_new 43 wr #[.int .i64 1, .int .i64 0, .slice a K c])
      have NA := hiddenN (HN.out.keep fun k hk => bA.block k hk.1)
      have hsA : (wr.alloc (.cells #[.int .i64 1, .int .i64 0, .slice a K c] 43)).heap.size = wr.heap.size + 1 := World.size_alloc _ _
      have HSA := hiddenN hsA
      have BA := hiddenN (HB.out.alloc HB.out.size (.cells #[.int .i64 1, .int .i64 0, .slice a K c] 43))
      have hxw : xb < wr.heap.size := HX.out.lt
      clear bA hsA
      go_upto_region 8 with fail
      have bU := but_set3 wr xb (.int .i64 1) (.int .i64 0) (.slice (some ⟨wr.heap.size, 0, none⟩) 1 1)
      have XU := blkA_set3 HX.out (.int .i64 1) (.int .i64 0) (.slice (some ⟨wr.heap.size, 0, none⟩) 1 1)
      have hsU : (((wr.setCell ⟨xb, 0, none⟩ (.int .i64 1)).setCell ⟨xb, 1, none⟩ (.int .i64 0)).setCell ⟨xb, 2, none⟩ (.slice (some ⟨wr.heap.size, 0, none⟩) 1 1)).heap.size = wr.heap.size := by simp
      have BU := hiddenN bU
      have NU := hiddenN (HN.out.keep fun k hk => bU.block k hk.1 hk.2)
      have LU := hiddenN (HB.out.trans (bU.below hwx HB.out.size))
      clear bU y0 y1 y2 z0 z1 z2 f0 f1 f2 e0 e1 e2 XA XG NA BA HSA
      generalize (((wr.setCell ⟨xb, 0, none⟩ (.int .i64 1)).setCell ⟨xb, 1, none⟩ (.int .i64 0)).setCell ⟨xb, 2, none⟩ (.slice (some ⟨wr.heap.size, 0, none⟩) 1 1)) = U at *
      have bA := (Below.refl U.heap.size U).alloc (Nat.le_refl _) (.cells #[.int .i64 1, .int .i64 0, .slice a K c] 43)
      have X3 := hiddenN (XU.below bA)
      have G3 := hiddenN (blkA_new 43 U #[.int .i64 1, .int .i64 0, .slice a K c])
      have N3 := hiddenN (NU.out.keep fun k hk => bA.block k (by rw [hsU]; exact hk.1))
      have B3 := hiddenN (LU.out.trans (bA.mono LU.out.size))
      have S3 : Hid ((U.alloc (.cells #[.int .i64 1, .int .i64 0, .slice a K c] 43)).heap.size = wr.heap.size + 1) := by show _ = _; rw [World.size_alloc, hsU]
      rw [hsU] at G3
      clear bA XU hsU
      generalize U.alloc (.cells #[.int .i64 1, .int .i64 0, .slice a K c] 43) = W4 at *
      go_wp2
      go_roundg (16 - (i + 1))
      case measure => omega
      case rel => exact ⟨i + 1, 1, 1, some ⟨wr.heap.size, 0, none⟩, by omega, rfl, by go_num, rfl, X3.out, nst_one (F := fun k => k < W4.heap.size ∧ k ≠ xb) ⟨by rw [S3.out]; omega, by omega⟩ (by rw [HK.out]; exact G3.out) (N3.out.mono fun k hk => ⟨by rw [S3.out]; omega, hk.2⟩), B3.out⟩
    · have ei : 16 = i := by omega
      subst ei
      have hK1 : K = 1 := HK.out.symm
      subst hK1
      have hiI : ¬ ((16 : Int) < 16) := by omega
      have NF : Hid (∀ u, Below wr.heap.size wr u → Nst (· < u.heap.size) false u a (bdL 16)) := fun u hu => (HN.out.keep fun k hk => hu.block k hk.1).mono fun k hk => Nat.lt_of_lt_of_le hk.1 hu.size
      have k6 := hiddenN (K6.out wr a c (NF.out wr (Below.refl _ _)))
      have hwr := HB.out.size
      go_upto_region 11 with (go_at_call 18; (with_reducible refine k6.out.mono ?_); rintro e V6 ⟨rfl, b⟩; have b6 := hiddenN b; have L6 := hiddenN (HB.out.trans (b.mono HB.out.size)); have x6 := HX.out.below b; clear b)
      clear y0 y1 y2
      have y0 := x6.cell (k := 0) rfl
      have y1 := x6.cell (k := 1) rfl
      have y2 := x6.cell (k := 2) rfl
      simp only [List.getElem_toArray, List.getElem_cons_zero, List.getElem_cons_succ] at y0 y1 y2
      have k7 := hiddenN (K7.out V6 a c (NF.out V6 b6.out))
      clear x6
      go_upto_region 12 with (go_at_call 18; (with_reducible refine k7.out.mono ?_); rintro e V7 ⟨rfl, b⟩; have L7 := hiddenN (L6.out.trans (b.mono L6.out.size)); clear b)
      clear y0 y1 y2 k6 k7
      go_wp2_with (first
        | (go_at_call 11; (with_reducible refine (AW.out V7).mono ?_); rintro e V8 ⟨rfl, b⟩; have L8 := hiddenN (L7.out.trans (b.mono L7.out.size)); have k5 := hiddenN (K5.out V8); clear b)
        | (go_at_call 18; (with_reducible refine k5.out.mono ?_); rintro e V9 ⟨rfl, b⟩; have L9 := hiddenN (L8.out.trans (b.mono L8.out.size)); clear b))
      rw [← HRE.out]
      exact ⟨by first | rfl | simp, L9.out⟩
end Go.Proofs.Ytigaimkflngneaa
