/- Texts of one chain, laid one behind the other. -/
import Derived.Test.YthgmdaaiolgjlabPartNestAgrees15
import Derived.Test.YthgmdaaiolgjlabPartNestAgrees23
import Derived.Test.YthgmdaaiolgjlabPartNestAgrees12
import Derived.Test.YthgmdaaiolgjlabPartNestAgrees13
import Derived.Test.YthgmdaaiolgjlabPartNestAgrees21
namespace Go.Proofs.Ythgmdaaiolgjlab
open Go.ChangeShapes Go.WideShapes Go.ChangeAt Go.RowKit Go.Shelf
attribute [local go_sem] Oper.semAt_some
def inL : List Lp := [⟨3, 0, [⟨1, 1, []⟩, ⟨2, 2, []⟩]⟩]
theorem in_siz : sizZ inL = 3 := by simp [inL, sizZ]
theorem in_lvs : lvsZ inL = 2 := by simp [inL, lvsZ]
theorem in_hds : hdsZ inL = 2 := by simp [inL, hdsZ]
theorem in_dps : dpsZ 0 inL = 1 := by simp [inL, dpsZ]
theorem in_tot : totZ inL = 9 := by simp [inL, totZ]
theorem in_exp : expZ inL = [1, 2, 2, 1, 2, 2, 1, 2, 2] := by simp [inL, expZ, repZ, List.replicate]
theorem in_err : errZ 0 0 inL = 0 := by simp [inL, errZ, flwZ, lvsZ]
theorem in_chk : chkZ inL = 0 := by unfold chkZ; rw [in_err, in_tot]; rfl
theorem in_kept : keptZ inL = inL := by unfold keptZ; rw [if_pos in_chk]
theorem in_sizV : sizV inL = .agg #[.int .i64 2, .int .i64 2, .int .i64 1, .int .i64 9] := by unfold sizV; rw [if_pos in_chk, in_lvs, in_hds, in_dps, in_tot]; rfl
theorem zero_chk : chkZ [⟨0, 0, []⟩] = 160 := by unfold chkZ; simp [errZ, flwZ]
theorem runs_four : runsY [3, 3, -1, 3] = [(3, 2), (-1, 1), (3, 1)] := by decide
theorem flat_two : chkY [(3, 2), (1, 1)] = 0 ∧ flatsY [(3, 2), (1, 1)] = [3, 3, 1] := by decide
set_option maxRecDepth 100000 in
theorem insideZ_any (w : World) : Calls Try.prog 12 #[] w fun e w' => ∃ g, e = .returned (.slice (some ⟨g, 0, none⟩) 1 1) ∧ Nst (· < w'.heap.size) false w' (some ⟨g, 0, none⟩) inL ∧ Below w.heap.size w w' := by
  have b1 := (Below.refl w.heap.size w).alloc (Nat.le_refl _) (.cells #[.int .i64 1, .int .i64 1, .slice none 0 0, .int .i64 2, .int .i64 2, .slice none 0 0] 47)
  have b2 := b1.alloc b1.size (.cells #[.int .i64 3, .int .i64 0, .slice (some ⟨w.heap.size, 0, none⟩) 2 2] 47)
  have hz : (w.alloc (.cells #[.int .i64 1, .int .i64 1, .slice none 0 0, .int .i64 2, .int .i64 2, .slice none 0 0] 47)).heap.size = w.heap.size + 1 := World.size_alloc _ _
  have x1 := (blkA_new 47 w #[.int .i64 1, .int .i64 1, .slice none 0 0, .int .i64 2, .int .i64 2, .slice none 0 0]).below ((Below.refl _ _).alloc (Nat.le_refl _) (.cells #[.int .i64 3, .int .i64 0, .slice (some ⟨w.heap.size, 0, none⟩) 2 2] 47))
  have x2 := blkA_new 47 (w.alloc (.cells #[.int .i64 1, .int .i64 1, .slice none 0 0, .int .i64 2, .int .i64 2, .slice none 0 0] 47)) #[.int .i64 3, .int .i64 0, .slice (some ⟨w.heap.size, 0, none⟩) 2 2]
  have hz2 : ((w.alloc (.cells #[.int .i64 1, .int .i64 1, .slice none 0 0, .int .i64 2, .int .i64 2, .slice none 0 0] 47)).alloc (.cells #[.int .i64 3, .int .i64 0, .slice (some ⟨w.heap.size, 0, none⟩) 2 2] 47)).heap.size = w.heap.size + 1 + 1 := by rw [World.size_alloc, hz]
  rw [hz] at x2
  have HN : Hid (Nst (· < w.heap.size + 1 + 1) false ((w.alloc (.cells #[.int .i64 1, .int .i64 1, .slice none 0 0, .int .i64 2, .int .i64 2, .slice none 0 0] 47)).alloc (.cells #[.int .i64 3, .int .i64 0, .slice (some ⟨w.heap.size, 0, none⟩) 2 2] 47)) (some ⟨w.heap.size + 1, 0, none⟩) inL) := by
    refine .inr ⟨_, 0, rfl, ?_⟩
    unfold inL
    rw [nst_cons, nst_nil]
    refine ⟨Nat.lt_succ_self _, x2.cell (k := 0) rfl, x2.cell (k := 1) rfl, ⟨_, 2, x2.cell (k := 2) rfl, .inr ⟨w.heap.size, 0, rfl, (fun e => by cases e), ?_⟩⟩, fun e => by cases e⟩
    rw [nst_cons, nst_cons, nst_nil]
    exact ⟨Nat.lt_succ_of_lt (Nat.lt_succ_self _), x1.cell (k := 0) rfl, x1.cell (k := 1) rfl, ⟨none, 0, x1.cell (k := 2) rfl, .inl rfl⟩, Nat.lt_succ_of_lt (Nat.lt_succ_self _), x1.cell (k := 3) rfl, x1.cell (k := 4) rfl, ⟨none, 0, x1.cell (k := 5) rfl, .inl rfl⟩, fun e => by cases e⟩
  have B2 := hiddenN b2
  have HZ := hiddenN hz2
  clear b1 b2 x1 x2 hz hz2
  go_enter Try.func12, Try.ntmps12
  go_wp2
  go_ret
  exact ⟨_, rfl, by rw [HZ.out]; exact HN.out, B2.out⟩
attribute [local go_sem] Oper.semAt_some
theorem measIn (u : World) (g : Nat) (h : Nst (· < u.heap.size) false u (some ⟨g, 0, none⟩) inL) : Calls Try.prog 8 #[.slice (some ⟨g, 0, none⟩) 1 1] u fun e w' => e = .returned (.tuple #[.agg #[.int .i64 2, .int .i64 2, .int .i64 1, .int .i64 9], .int .i64 0]) ∧ Below u.heap.size u w' := by
  have := measZ_any inL false (some ⟨g, 0, none⟩) 1 u h (by rw [in_siz]; decide)
  rw [in_sizV, in_chk] at this
  exact this
theorem checkIn (u : World) (g : Nat) (h : Nst (· < u.heap.size) false u (some ⟨g, 0, none⟩) inL) : Calls Try.prog 6 #[.slice (some ⟨g, 0, none⟩) 1 1] u fun e w' => e = .returned (.int .i64 0) ∧ Below u.heap.size u w' := by
  have := checkZ_any inL false (some ⟨g, 0, none⟩) 1 u h (by rw [in_siz]; decide)
  rw [in_chk] at this
  exact this
theorem expIn (u : World) (g : Nat) (h : Nst (· < u.heap.size) false u (some ⟨g, 0, none⟩) inL) : Calls Try.prog 9 #[.slice (some ⟨g, 0, none⟩) 1 1] u fun e w' => ∃ d c, e = .returned (.tuple #[.slice d 9 c, .int .i64 0]) ∧ CapR u.heap.size w' d c [1, 2, 2, 1, 2, 2, 1, 2, 2] ∧ Below u.heap.size u w' := by
  have := expandZ_any inL false (some ⟨g, 0, none⟩) 1 u h (by rw [in_siz]; decide)
  unfold ExpE at this
  rw [in_chk, in_kept, in_exp] at this
  exact this
theorem allIn (u : World) (g : Nat) (h : Nst (· < u.heap.size) false u (some ⟨g, 0, none⟩) inL) : Calls Try.prog 10 #[.slice (some ⟨g, 0, none⟩) 1 1] u fun e w' => ∃ kb, e = .returned (.func (.func 18) #[] #[.pointer (some ⟨kb, 0, none⟩)]) ∧ AllZ u.heap.size w' kb inL ∧ Below u.heap.size u w' :=
  allZ_any inL false (some ⟨g, 0, none⟩) 1 u h (by rw [in_siz]; decide)
theorem checkNo (u : World) : Calls Try.prog 6 #[.slice (some ⟨u.heap.size, 0, none⟩) 1 1] (u.alloc (.cells #[.int .i64 0, .int .i64 0, .slice none 0 0] 47)) fun e w' => e = .returned (.int .i64 160) ∧ Below u.heap.size u w' := by
  have x := blkA_new 47 u #[.int .i64 0, .int .i64 0, .slice none 0 0]
  have hz : (u.alloc (.cells #[.int .i64 0, .int .i64 0, .slice none 0 0] 47)).heap.size = u.heap.size + 1 := World.size_alloc _ _
  have := checkZ_any [⟨0, 0, []⟩] false (some ⟨u.heap.size, 0, none⟩) 1 _ (.inr ⟨_, 0, rfl, nst_cons.2 ⟨(by show _ < _; rw [hz]; exact Nat.lt_succ_self _), x.cell (k := 0) rfl, x.cell (k := 1) rfl, ⟨none, 0, x.cell (k := 2) rfl, .inl rfl⟩, nst_nil.2 (fun e => by cases e)⟩⟩) (by simp [sizZ])
  rw [zero_chk] at this
  refine this.mono fun e w' ⟨h1, h2⟩ => ⟨h1, ?_⟩
  exact ((Below.refl u.heap.size u).alloc (Nat.le_refl _) _).trans (h2.mono (by rw [hz]; exact Nat.le_succ _))
theorem runsIn (u : World) : Calls Try.prog 13 #[.slice (some ⟨u.heap.size, 0, none⟩) 4 4] (u.alloc (.cells #[.int .i64 3, .int .i64 3, .int .i64 (-1), .int .i64 3] 3)) fun e w' => ∃ d c, e = .returned (.slice d 3 c) ∧ CapY u.heap.size w' d c [(3, 2), (-1, 1), (3, 1)] ∧ Below u.heap.size u w' := by
  have x := blkA_new 3 u #[.int .i64 3, .int .i64 3, .int .i64 (-1), .int .i64 3]
  have hz : (u.alloc (.cells #[.int .i64 3, .int .i64 3, .int .i64 (-1), .int .i64 3] 3)).heap.size = u.heap.size + 1 := World.size_alloc _ _
  have := runsZ_any (some ⟨u.heap.size, 0, none⟩) [3, 3, -1, 3] 4 _ (.inr ⟨_, 0, rfl, fun k hk => by
    match k, hk with
    | 0, _ => exact x.cell (k := 0) rfl
    | 1, _ => exact x.cell (k := 1) rfl
    | 2, _ => exact x.cell (k := 2) rfl
    | 3, _ => exact x.cell (k := 3) rfl⟩) (by decide)
  unfold RunE at this
  rw [runs_four, hz] at this
  refine this.mono fun e w' ⟨d, c, h1, h2, h3⟩ => ⟨d, c, h1, h2.mono (Nat.le_succ _), ?_⟩
  exact ((Below.refl u.heap.size u).alloc (Nat.le_refl _) _).trans (h3.mono (Nat.le_succ _))
theorem flatIn (u : World) : Calls Try.prog 14 #[.slice (some ⟨u.heap.size, 0, none⟩) 2 2] (u.alloc (.cells #[.int .i64 3, .int .i64 2, .int .i64 1, .int .i64 1] 44)) fun e w' => ∃ d c, e = .returned (.tuple #[.slice d 3 c, .int .i64 0]) ∧ CapR u.heap.size w' d c [3, 3, 1] ∧ Below u.heap.size u w' := by
  have x := blkA_new 44 u #[.int .i64 3, .int .i64 2, .int .i64 1, .int .i64 1]
  have hz : (u.alloc (.cells #[.int .i64 3, .int .i64 2, .int .i64 1, .int .i64 1] 44)).heap.size = u.heap.size + 1 := World.size_alloc _ _
  have := flatZ_any (some ⟨u.heap.size, 0, none⟩) [(3, 2), (1, 1)] 2 _ (.inr ⟨_, 0, rfl, fun k hk => by
    match k, hk with
    | 0, _ => exact ⟨x.cell (k := 0) rfl, x.cell (k := 1) rfl⟩
    | 1, _ => exact ⟨x.cell (k := 2) rfl, x.cell (k := 3) rfl⟩⟩) (by decide)
  unfold FlaE at this
  rw [flat_two.1, flat_two.2, if_pos rfl, hz] at this
  refine this.mono fun e w' ⟨d, c, h1, h2, h3⟩ => ⟨d, c, h1, h2.mono (Nat.le_succ _), ?_⟩
  exact ((Below.refl u.heap.size u).alloc (Nat.le_refl _) _).trans (h3.mono (Nat.le_succ _))
theorem sameNine (U : World) (a1 : Option Addr) (c1 : Nat) (a2 : Option Addr) (c2 : Nat) (h1 : At U a1 [1, 2, 2, 1, 2, 2, 1, 2, 2]) (h2 : At U a2 [1, 2, 2, 1, 2, 2, 1, 2, 2]) : Calls Try.prog 15 #[.slice a1 9 c1, .slice a2 9 c2] U fun e w' => e = .returned (.bool true) ∧ Below U.heap.size U w' := sameN U a1 a2 [1, 2, 2, 1, 2, 2, 1, 2, 2] c1 c2 (by decide) h1 h2
theorem sameThree (U : World) (a1 : Option Addr) (c1 : Nat) (h1 : At U a1 [3, 3, 1]) : Calls Try.prog 15 #[.slice a1 3 c1, .slice (some ⟨U.heap.size, 0, none⟩) 3 3] (U.alloc (.cells #[.int .i64 3, .int .i64 3, .int .i64 1] 3)) fun e w' => e = .returned (.bool true) ∧ Below U.heap.size U w' := by
  have x := blkA_new 3 U #[.int .i64 3, .int .i64 3, .int .i64 1]
  have b := (Below.refl U.heap.size U).alloc (Nat.le_refl _) (.cells #[.int .i64 3, .int .i64 3, .int .i64 1] 3)
  refine (sameN _ a1 (some ⟨U.heap.size, 0, none⟩) [3, 3, 1] c1 3 (by decide) (h1.below b) (.inr ⟨_, 0, rfl, fun k hk => ?_⟩)).mono fun e w' ⟨h1, h2⟩ => ⟨h1, b.trans (h2.mono b.size)⟩
  match k, hk with
  | 0, _ => exact x.cell (k := 0) rfl
  | 1, _ => exact x.cell (k := 1) rfl
  | 2, _ => exact x.cell (k := 2) rfl
set_option maxRecDepth 100000 in
set_option maxHeartbeats 16000000 in
theorem awake16 (w : World) : Calls Try.prog 5 #[] w fun e w' => e = .returned (.bool true) ∧ Below w.heap.size w w' := by
  have IS := hiddenN insideZ_any
  have ME := hiddenN measIn
  have EX := hiddenN expIn
  have AL := hiddenN allIn
  have CK := hiddenN checkIn
  have C0 := hiddenN checkNo
  have RU := hiddenN runsIn
  have FL := hiddenN flatIn
  have SI9 := hiddenN sameNine
  have SI3 := hiddenN sameThree
  obtain ⟨RE, hRE⟩ : ∃ Q : Ending → World → Prop, (fun e w' => e = .returned (.bool true) ∧ Below w.heap.size w w') = Q := ⟨_, rfl⟩
  rw [hRE]
  have HRE := hiddenN hRE
  clear hRE
  obtain ⟨i0, hi, hz0, hz1, hz2⟩ := info_parts Try.info3
  refine (callsIn_wide (n := 9)).1 (callsIn_of_wp_marks Try.func5 rfl trivial ?_ rfl)
  simp only [Try.ntmps5, List.size_toArray, List.length_nil, Nat.reduceSub, Array.replicate_succ, Array.replicate_zero, List.push_toArray, List.append_toArray, List.nil_append, List.cons_append]
  refine wpIn_wide.2 ?_
  go_upto_region 2 with (first
    | (go_at_call 12; (with_reducible refine (IS.out _).mono ?_); rintro e V1 ⟨g1, rfl, hn1, b1⟩; have N1 := hiddenN hn1; have L1 := hiddenN b1; clear hn1 b1)
    | (go_at_call 8; (with_reducible refine (ME.out V1 g1 N1.out).mono ?_); rintro e V2 ⟨rfl, b2⟩; have L2 := hiddenN (L1.out.trans (b2.mono L1.out.size)); clear b2))
  have X2 := hiddenN (blkA_new 29 V2 #[.int .i64 2, .int .i64 2, .int .i64 1, .int .i64 9])
  have L3 := hiddenN (L2.out.alloc L2.out.size (.cells #[.int .i64 2, .int .i64 2, .int .i64 1, .int .i64 9] 29))
  obtain ⟨x1, hx1⟩ : ∃ q, V2.heap.size = q := ⟨_, rfl⟩
  rw [hx1] at X2 ⊢
  clear hx1 L1 N1
  generalize V2.alloc (.cells #[.int .i64 2, .int .i64 2, .int .i64 1, .int .i64 9] 29) = V3 at *
  go_upto_region 3 with (first
    | (go_at_call 12; (with_reducible refine (IS.out V3).mono ?_); rintro e V4 ⟨g4, rfl, hn4, b4⟩; have N4 := hiddenN hn4; have L4 := hiddenN (L3.out.trans (b4.mono L3.out.size)); have X4 := hiddenN (X2.out.below b4); clear hn4 b4)
    | (go_at_call 9; (with_reducible refine (EX.out V4 g4 N4.out).mono ?_); rintro e V5 ⟨d5, c5, rfl, hc5, b5⟩; have E5 := hiddenN hc5.at; have L5 := hiddenN (L4.out.trans (b5.mono L4.out.size)); have X5 := hiddenN (X4.out.below b5); clear hc5 b5))
  clear L3 L4 X2 X4 N4
  have RU5 := hiddenN (RU.out V5)
  go_upto_region 4 with (go_at_call 13; (with_reducible refine RU5.out.mono ?_); rintro e V6 ⟨d6, c6, rfl, hc6, b6⟩; have R6 := hiddenN hc6; have L6 := hiddenN (L5.out.trans (b6.mono L5.out.size)); have X6 := hiddenN (X5.out.below b6); have E6 := hiddenN (E5.out.below b6); clear hc6 b6)
  have FL6 := hiddenN (FL.out V6)
  go_upto_region 7 with (go_at_call 14; (with_reducible refine FL6.out.mono ?_); rintro e V7 ⟨d7, c7, rfl, hc7, b7⟩; have F7 := hiddenN hc7.at; have L7 := hiddenN (L6.out.trans (b7.mono L6.out.size)); have X7 := hiddenN (X6.out.below b7); have E7 := hiddenN (E6.out.below b7); have R7 := hiddenN (R6.out.later b7); clear hc7 b7)
  clear L5 L6 X5 X6 E5 E6 R6 RU5 FL6
  have b8 := (Below.refl V7.heap.size V7).alloc (Nat.le_refl _) (.cells #[.slice none 0 0] 32)
  have B8 := hiddenN b8
  have BX := hiddenN (Boxed.new V7 32 (.slice none 0 0))
  go_upto_region 8 with fail
  obtain ⟨lb, hlb⟩ : ∃ q, V7.heap.size = q := ⟨_, rfl⟩
  have HLB := hiddenN hlb
  rw [hlb] at BX ⊢
  clear b8 hlb
  generalize V7.alloc (.cells #[.slice none 0 0] 32) = V8 at *
  go_wp2_with (first
    | (go_at_call 12; (with_reducible refine (IS.out V8).mono ?_); rintro e V9 ⟨g9, rfl, hn9, b9⟩; have N9 := hiddenN hn9; have B9 := hiddenN (B8.out.trans (b9.mono B8.out.size)); have BX9 := hiddenN (BX.out.kept (grown_below b9) (by simp)); clear hn9 b9)
    | (go_at_call 10; (with_reducible refine (AL.out V9 g9 N9.out).mono ?_); rintro e V10 ⟨kb, rfl, ha, b10⟩; have HA := hiddenN ha; have B10 := hiddenN (B9.out.trans (b10.mono B9.out.size)); have BX10 := hiddenN (BX9.out.kept (grown_below b10) (by simp)); clear ha b10))
  have hT9 : Hid (totZ (keptZ inL) = 9) := by show _ = _; rw [in_kept, in_tot]
  have hE9 : Hid (expZ (keptZ inL) = [1, 2, 2, 1, 2, 2, 1, 2, 2]) := by show _ = _; rw [in_kept, in_exp]
  have HLW : Hid (w.heap.size ≤ V10.heap.size) := Nat.le_trans L7.out.size B10.out.size
  have hlb2 : V7.heap.size ≤ lb := by rw [HLB.out]; exact Nat.le_refl _
  refine rangeZ 9 rfl (enters_of Try.func18 (by kernel_rfl) rfl) (allZ_stops (9 - 1) V9.heap.size V10 kb inL HA.out (by rw [in_siz]; decide)) (fun h k => KpZ.trans h k) (kpZ_b (w := V10))
    (fun pre W => ColZ V7.heap.size V7 V10 lb pre W) (fun _ _ _ => False) (ColZ.own B10.out.size (Nat.le_refl _)) (fun _ _ _ _ _ hs _ _ => hs) ⟨⟨_, BX10.out, World.ownsRow_nil _ _ _ _, fun _ => rfl⟩, B10.out, KpZ.refl _ _⟩ ?assign ?body ?done ?stop
  case assign =>
    intro l9 x W K hK
    simp only [List.setIfInBounds_toArray, List.set_cons_zero, List.set_cons_succ] at hK ⊢
    gi_wp2
    exact hK
  case body =>
    rintro l9 pre x W hcol hlt
    simp only [List.setIfInBounds_toArray, List.set_cons_zero, List.set_cons_succ]
    obtain ⟨v, hv, hrow, hnil⟩ := hcol.box
    have hB := hcol.below
    have hc := hv.cell
    rw [hT9.out] at hlt
    gi_wp2_with (gi_at_builtin; refine wpListIn_append_own _ rfl _ _ 32 rfl V7.heap.size 3 i0 (.int .i64 0) 1 8 Try.underlying32 hi hz0 hz1 hz2 rfl (by decide) _ _ _ rfl (hrow.alloc _) ⟨W.heap.size, 0, none⟩ 1 1 [.int .i64 x] rfl rfl (cell_one_new _ _ _) (by simp [Value.oneCell']) (by unfold maxLen; omega) (by omega) (by have := hB.size; simp; omega) ?_; intro v' w1 hown' hgrow _; obtain ⟨g', cap', rfl⟩ := ownsRow_succ hown'; obtain ⟨hv1, hk2, hkp, hcol2⟩ := hcol.step hv hrow hlb2 hB.size (by intro e; cases e) hown' hgrow; have hc1 := hv1.cell; have hf1 := hv1.frozen)
    exact ⟨hk2, hkp, hcol2⟩
  case stop =>
    rintro D c' pre W _ _ h _
    exact h.elim
  case done =>
    rintro D ys W hD rfl hcol hK
    rw [hE9.out] at hcol
    obtain ⟨v, hv, hrow, hnil⟩ := hcol.box
    obtain ⟨d, c9, rfl⟩ : ∃ d c9, v = .slice d 9 c9 := row_slice hrow
    have D0 : Hid (CapR V7.heap.size W d c9 [1, 2, 2, 1, 2, 2, 1, 2, 2]) := hrow
    have BX0 := hiddenN hv
    have B0 := hiddenN hcol.below
    have HK := hiddenN hK
    have E0 := hiddenN (E7.out.below B0.out)
    have F0 := hiddenN (F7.out.below B0.out)
    have R0 := hiddenN (R7.out.later B0.out)
    have X0 := hiddenN (X7.out.below B0.out)
    have L0 := hiddenN (L7.out.trans (B0.out.mono L7.out.size))
    clear hcol hrow hnil hv hK E7 F7 R7 X7 L7 B8 B9 B10 BX BX9 BX10 HA N9
    go_upto_region 12 with fail
    have b1 := (Below.refl W.heap.size W).alloc (Nat.le_refl _) (.cells #[.int .i64 1, .int .i64 2, .int .i64 2, .int .i64 1, .int .i64 2, .int .i64 2, .int .i64 1, .int .i64 2, .int .i64 2] 3)
    have D1 := hiddenN (D0.out.at.below b1)
    have BX1 := hiddenN (BX0.out.kept (grown_below b1) (by simp))
    have HK1 := hiddenN ((b1.block D (Array.getElem?_eq_some_iff.1 HK.out).1).trans HK.out)
    have E1 := hiddenN (E0.out.below b1)
    have F1 := hiddenN (F0.out.below b1)
    have R1 := hiddenN (R0.out.later b1)
    have X1 := hiddenN (X0.out.below b1)
    have L1 := hiddenN (L0.out.trans (b1.mono L0.out.size))
    have W9 : Hid (At (W.alloc (.cells #[.int .i64 1, .int .i64 2, .int .i64 2, .int .i64 1, .int .i64 2, .int .i64 2, .int .i64 1, .int .i64 2, .int .i64 2] 3)) (some ⟨W.heap.size, 0, none⟩) [1, 2, 2, 1, 2, 2, 1, 2, 2]) := by
      have x := blkA_new 3 W #[.int .i64 1, .int .i64 2, .int .i64 2, .int .i64 1, .int .i64 2, .int .i64 2, .int .i64 1, .int .i64 2, .int .i64 2]
      refine .inr ⟨_, 0, rfl, fun k hk => ?_⟩
      match k, hk with
      | 0, _ => exact x.cell (k := 0) rfl
      | 1, _ => exact x.cell (k := 1) rfl
      | 2, _ => exact x.cell (k := 2) rfl
      | 3, _ => exact x.cell (k := 3) rfl
      | 4, _ => exact x.cell (k := 4) rfl
      | 5, _ => exact x.cell (k := 5) rfl
      | 6, _ => exact x.cell (k := 6) rfl
      | 7, _ => exact x.cell (k := 7) rfl
      | 8, _ => exact x.cell (k := 8) rfl
    obtain ⟨wb, hwb⟩ : ∃ q, W.heap.size = q := ⟨_, rfl⟩
    rw [hwb] at W9 ⊢
    clear b1 hwb D0 BX0 HK E0 F0 R0 X0 L0
    generalize W.alloc (.cells #[.int .i64 1, .int .i64 2, .int .i64 2, .int .i64 1, .int .i64 2, .int .i64 2, .int .i64 1, .int .i64 2, .int .i64 2] 3) = W1 at *
    have y0 := X1.out.cell (k := 0) rfl
    have y1 := X1.out.cell (k := 1) rfl
    have y2 := X1.out.cell (k := 2) rfl
    have y3 := X1.out.cell (k := 3) rfl
    simp only [List.getElem_toArray, List.getElem_cons_zero, List.getElem_cons_succ] at y0 y1 y2 y3
    have S1 := hiddenN (SI9.out W1 d5 c5 (some ⟨wb, 0, none⟩) 9 E1.out W9.out)
    go_upto_region 13 with (first
      | (go_at_call 15; (with_reducible refine S1.out.mono ?_); clear S1; rintro e W2 ⟨rfl, b2⟩; have D2 := hiddenN (D1.out.below b2); have W92 := hiddenN (W9.out.below b2); have zb := (BX1.out.kept (grown_below b2) (by simp)).cell; have HK2 := hiddenN ((b2.block D (Array.getElem?_eq_some_iff.1 HK1.out).1).trans HK1.out); have F2 := hiddenN (F1.out.below b2); have R2 := hiddenN (R1.out.later b2); have L2 := hiddenN (L1.out.trans (b2.mono L1.out.size)); have S2 := hiddenN (SI9.out W2 d c9 (some ⟨wb, 0, none⟩) 9 D2.out W92.out); clear b2)
      | (go_at_call 15; (with_reducible refine S2.out.mono ?_); clear S2; rintro e W3 ⟨rfl, b3⟩; have HK3 := hiddenN ((b3.block D (Array.getElem?_eq_some_iff.1 HK2.out).1).trans HK2.out); have R3 := hiddenN (R2.out.later b3); have L3 := hiddenN (L2.out.trans (b3.mono L2.out.size)); have S3 := hiddenN (SI3.out W3 d7 c7 (F2.out.below b3)); clear b3)
      | (go_at_call 15; (with_reducible refine S3.out.mono ?_); clear S3; rintro e W4 ⟨rfl, b4⟩; have HK4 := hiddenN ((b4.block D (Array.getElem?_eq_some_iff.1 HK3.out).1).trans HK3.out); have R4 := hiddenN (R3.out.later b4); have L4 := hiddenN (L3.out.trans (b4.mono L3.out.size)); clear b4))
    clear y0 y1 y2 y3 zb
    go_upto_region 14 with (first
      | (go_at_call 12; (with_reducible refine (IS.out W4).mono ?_); rintro e W5 ⟨g5, rfl, hn5, b5⟩; have N5 := hiddenN hn5; have HK5 := hiddenN ((b5.block D (Array.getElem?_eq_some_iff.1 HK4.out).1).trans HK4.out); have R5 := hiddenN (R4.out.later b5); have L5 := hiddenN (L4.out.trans (b5.mono L4.out.size)); have CK5 := hiddenN (CK.out W5 g5 N5.out); clear hn5 b5)
      | (go_at_call 6; (with_reducible refine CK5.out.mono ?_); clear CK5; rintro e W6 ⟨rfl, b6⟩; have HK6 := hiddenN ((b6.block D (Array.getElem?_eq_some_iff.1 HK5.out).1).trans HK5.out); have R6 := hiddenN (R5.out.later b6); have L6 := hiddenN (L5.out.trans (b6.mono L5.out.size)); have C06 := hiddenN (C0.out W6); clear b6)
      | (go_at_call 6; (with_reducible refine C06.out.mono ?_); clear C06; rintro e W7 ⟨rfl, b7⟩; have HK7 := hiddenN ((b7.block D (Array.getElem?_eq_some_iff.1 HK6.out).1).trans HK6.out); have R7 := hiddenN (R6.out.later b7); have L7 := hiddenN (L6.out.trans (b7.mono L6.out.size)); clear b7))
    obtain ⟨g6, rfl⟩ := capY_some R7.out (by simp)
    have r0 := capY_cell0 R7.out (k := 0) (by decide)
    have r1 := capY_cell1 R7.out (k := 0) (by decide)
    rw [show (nthY [(3, 2), (-1, 1), (3, 1)] 0).1 = 3 from rfl, Nat.zero_mul] at r0
    rw [show (nthY [(3, 2), (-1, 1), (3, 1)] 0).2 = 2 from rfl, Nat.zero_mul, Nat.zero_add] at r1
    go_wp2
    refine ⟨by simp, .inl ⟨_, _, rfl, run_takeDeferred HK7.out, ?_⟩⟩
    refine ⟨_, results_tmp rfl _ _ _, ?_⟩
    rw [← HRE.out]
    exact ⟨by first | rfl | simp, L7.out.trans (belowK_b (w := w) (Nat.le_refl _) W7 D _ _ (by have := L1.out.size; have := HLW.out; omega) HK7.out rfl rfl)⟩
attribute [local go_sem] Oper.semAt_some
/-- While what All tells is held against a list. -/
structure AgrZ (W0 : World) (nb sb : Nat) (A : List Int) (pre : List Int) (W : World) : Prop where
  pref : pre <+: A
  num : Boxed W nb 3 (.int .i64 (pre.length : Int))
  sam : Boxed W sb 4 (.bool true)
  keep : ∀ k, k < W0.heap.size → k ≠ nb → k ≠ sb → W.heap[k]? = W0.heap[k]?
  size : W0.heap.size ≤ W.heap.size
  os : W.os = W0.os
  tape : W.tape = W0.tape
  output : W.output = W0.output
theorem boxed_turn {W W' : World} {row : Option Nat} {x : Nat} {T : TypeId} {v : Value} (h : Boxed W x T v) (hg : W.grownBy W' row) (hr : ∀ r, row = some r → ∃ o : Obj, W.heap[r]? = some o ∧ o.isCells = false) : Boxed W' x T v := by
  refine h.kept hg (fun e => ?_)
  obtain ⟨o, ho, hc⟩ := hr x e.symm
  rw [show W.heap[x]? = _ from h] at ho
  cases ho; cases hc
theorem AgrZ.own {W0 : World} {nb sb : Nat} {A : List Int} : OwnFrom W0.heap.size (AgrZ W0 nb sb A) := by
  intro s W W' row h hg hr
  exact ⟨h.pref, boxed_turn h.num hg (fun r e => (hr r e).2), boxed_turn h.sam hg (fun r e => (hr r e).2), fun k hk h1 h2 => (hg.block k (Nat.lt_of_lt_of_le hk h.size) (fun e => by have := (hr k e.symm).1; omega)).trans (h.keep k hk h1 h2), Nat.le_trans h.size hg.size, hg.os.trans h.os, hg.tape.trans h.tape, hg.output.trans h.output⟩
theorem boxed_ty {W : World} {x k : Nat} {T : TypeId} {v : Value} {cs : Array Value} (h : Boxed W x T v) (hk : BlkA 47 k W cs) (hT : T ≠ 47) : k ≠ x := by
  rintro rfl
  have := (show W.heap[k]? = _ from h).symm.trans hk
  simp at this
  exact hT this.2
/-- The two boxes are written. -/
theorem AgrZ.two {W0 W : World} {nb sb : Nat} {A pre : List Int} (h : AgrZ W0 nb sb A pre W) (hne : nb ≠ sb) (hs0 : nb < W0.heap.size) (hs1 : sb < W0.heap.size) (hn0 : ¬ TyZ W0 nb) (hs2 : ¬ TyZ W0 sb) (b : Bool) (z : Int) :
    Boxed ((W.setCell ⟨sb, 0, none⟩ (.bool b)).setCell ⟨nb, 0, none⟩ (.int .i64 z)) nb 3 (.int .i64 z) ∧ Boxed ((W.setCell ⟨sb, 0, none⟩ (.bool b)).setCell ⟨nb, 0, none⟩ (.int .i64 z)) sb 4 (.bool b) ∧ KeepsFrom W0.heap.size W ((W.setCell ⟨sb, 0, none⟩ (.bool b)).setCell ⟨nb, 0, none⟩ (.int .i64 z)) ∧ KpZ (TyZ W0) W ((W.setCell ⟨sb, 0, none⟩ (.bool b)).setCell ⟨nb, 0, none⟩ (.int .i64 z)) ∧
    (∀ k, k < W0.heap.size → k ≠ nb → k ≠ sb → ((W.setCell ⟨sb, 0, none⟩ (.bool b)).setCell ⟨nb, 0, none⟩ (.int .i64 z)).heap[k]? = W0.heap[k]?) ∧ W0.heap.size ≤ ((W.setCell ⟨sb, 0, none⟩ (.bool b)).setCell ⟨nb, 0, none⟩ (.int .i64 z)).heap.size := by
  have g1 := grownBy_setCell' W sb (.bool b)
  have g2 := grownBy_setCell' (W.setCell ⟨sb, 0, none⟩ (.bool b)) nb (.int .i64 z)
  have n1 : Boxed (W.setCell ⟨sb, 0, none⟩ (.bool b)) nb 3 (.int .i64 (pre.length : Int)) := h.num.kept g1 (fun e => hne (by cases e; rfl))
  have s1 := h.sam.set (.bool b)
  have hk : ∀ k, k < W.heap.size → k ≠ nb → k ≠ sb → ((W.setCell ⟨sb, 0, none⟩ (.bool b)).setCell ⟨nb, 0, none⟩ (.int .i64 z)).heap[k]? = W.heap[k]? := fun k hk h1 h2 => (g2.block k (Nat.lt_of_lt_of_le hk g1.size) (fun e => h1 (by cases e; rfl))).trans (g1.block k hk (fun e => h2 (by cases e; rfl)))
  have hty : ∀ k cs, BlkA 47 k W cs → BlkA 47 k ((W.setCell ⟨sb, 0, none⟩ (.bool b)).setCell ⟨nb, 0, none⟩ (.int .i64 z)) cs := fun k cs q => q.keep (hk k q.lt (boxed_ty h.num q (by decide)) (boxed_ty h.sam q (by decide)))
  refine ⟨n1.set _, s1.kept g2 (fun e => hne (by cases e; rfl)), ((KeepsOthers.setCell _ _ _).trans (KeepsOthers.setCell _ _ _)).from _, ⟨⟨Nat.le_trans g1.size g2.size, fun k q => ?_⟩, hty⟩, fun k q h1 h2 => (hk k (Nat.lt_of_lt_of_le q h.size) h1 h2).trans (h.keep k q h1 h2), Nat.le_trans h.size (Nat.le_trans g1.size g2.size)⟩
  by_cases e1 : k = nb
  · subst e1; exact absurd q hn0
  · by_cases e2 : k = sb
    · subst e2; exact absurd q hs2
    · exact hk k (Nat.lt_of_lt_of_le q.lt h.size) e1 e2
theorem pref_snoc {A pre : List Int} {x : Int} (h : pre <+: A) (hl : pre.length < A.length) : pre ++ [x] <+: A ↔ nth A pre.length = x := by
  obtain ⟨r, rfl⟩ := h
  cases r with
  | nil => simp at hl
  | cons y r =>
    have : nth (pre ++ y :: r) pre.length = y := by
      unfold nth
      rw [List.getD_eq_getElem?_getD, List.getElem?_append_right (Nat.le_refl _), Nat.sub_self]
      rfl
    rw [this, List.prefix_append_right_inj]
    constructor
    · rintro ⟨s, hs⟩
      simp at hs
      exact hs.1.symm
    · rintro rfl
      exact ⟨r, rfl⟩
set_option maxRecDepth 100000 in
set_option maxHeartbeats 16000000 in
theorem nestAgrees_walk (a : Option Addr) (l : List Lp) (c : Nat) (w : World) (h : Nst (· < w.heap.size) false w a l) : Calls Try.prog 3 #[.slice a l.length c] w fun e w' => e = .returned (.bool true) ∧ Below w.heap.size w w' := by
  have HV := hiddenN (heavyZ_any l (· < w.heap.size) false a c w h)
  have AW := hiddenN awake16
  obtain ⟨RE, hRE⟩ : ∃ Q : Ending → World → Prop, (fun e w' => e = .returned (.bool true) ∧ Below w.heap.size w w') = Q := ⟨_, rfl⟩
  rw [hRE]
  have HRE := hiddenN hRE
  have HN := hiddenN h
  obtain ⟨L, hL⟩ : ∃ q, l.length = q := ⟨_, rfl⟩
  have HL := hiddenN hL
  rw [hL] at HV ⊢
  clear hRE h hL
  refine (callsIn_wide (n := 9)).1 (callsIn_of_wp_marks Try.func3 rfl trivial ?_ rfl)
  simp only [Try.ntmps3, List.size_toArray, List.length_cons, List.length_nil, Nat.reduceAdd, Nat.reduceSub, Array.replicate_succ, Array.replicate_zero, List.push_toArray, List.append_toArray, List.nil_append, List.cons_append]
  refine wpIn_wide.2 ?_
  go_upto_region 3 with (go_at_call 4; (with_reducible refine HV.out.mono ?_); rintro e V0 ⟨b, rfl, hb, hw⟩; subst hw; cases b)
  · have hs : sizZ l ≤ 65536 := by simpa using hb
    have HS : Hid (sizZ l ≤ 1000000) := by show _ ≤ _; omega
    have LE : Hid (∀ u, Below w.heap.size w u → Calls Try.prog 7 #[.slice a L c] u (LenE l u)) := fun u hu => by
      have := lentZ_any l w.heap.size false a c u (HN.out.below hu) hu.size HS.out
      rwa [HL.out] at this
    have CK : Hid (∀ u B g cc, LtdZ B u g cc l → Calls Try.prog 6 #[.slice (some ⟨g, 0, none⟩) L cc] u fun e w' => e = .returned (.int .i64 (chkZ l : Int)) ∧ Below u.heap.size u w') := fun u B g cc h => by
      have := checkZ_any l true (some ⟨g, 0, none⟩) cc u h.bare HS.out
      rwa [HL.out] at this
    have ME : Hid (∀ u B g cc, LtdZ B u g cc l → Calls Try.prog 8 #[.slice (some ⟨g, 0, none⟩) L cc] u fun e w' => e = .returned (.tuple #[sizV l, .int .i64 (chkZ l : Int)]) ∧ Below u.heap.size u w') := fun u B g cc h => by
      have := measZ_any l true (some ⟨g, 0, none⟩) cc u h.bare HS.out
      rwa [HL.out] at this
    have EX : Hid (∀ u B g cc, LtdZ B u g cc l → Calls Try.prog 9 #[.slice (some ⟨g, 0, none⟩) L cc] u (ExpE l u)) := fun u B g cc h => by
      have := expandZ_any l true (some ⟨g, 0, none⟩) cc u h.bare HS.out
      rwa [HL.out] at this
    have AL : Hid (∀ u B g cc, LtdZ B u g cc l → Calls Try.prog 10 #[.slice (some ⟨g, 0, none⟩) L cc] u fun e w' => ∃ kb, e = .returned (.func (.func 18) #[] #[.pointer (some ⟨kb, 0, none⟩)]) ∧ AllZ u.heap.size w' kb l ∧ Below u.heap.size u w') := fun u B g cc h => by
      have := allZ_any l true (some ⟨g, 0, none⟩) cc u h.bare HS.out
      rwa [HL.out] at this
    obtain ⟨v0, v1, v2, v3, hv, hv1, hv2⟩ : ∃ v0 v1 v2 v3 : Int, sizV l = .agg #[.int .i64 v0, .int .i64 v1, .int .i64 v2, .int .i64 v3] ∧ (chkZ l = 0 → v0 = (lvsZ l : Int) ∧ v2 = (dpsZ 0 l : Int) ∧ v3 = (totZ l : Int)) ∧ (chkZ l ≠ 0 → v0 = 0 ∧ v1 = 0 ∧ v2 = 0 ∧ v3 = 0) := by
      unfold sizV
      by_cases he : chkZ l = 0
      · rw [if_pos he]; exact ⟨_, _, _, _, rfl, fun _ => ⟨rfl, rfl, rfl⟩, fun h => absurd he h⟩
      · rw [if_neg he]; exact ⟨_, _, _, _, rfl, fun h => absurd h he, fun _ => ⟨rfl, rfl, rfl, rfl⟩⟩
    have HV1 := hiddenN hv1
    have HV2 := hiddenN hv2
    rw [hv] at ME
    unfold LenE at LE
    unfold ExpE at EX
    obtain ⟨E, hE⟩ : ∃ q, chkZ l = q := ⟨_, rfl⟩
    rw [hE] at CK ME EX HV1 HV2
    have HE := hiddenN hE
    obtain ⟨A, hA⟩ : ∃ q, expZ (keptZ l) = q := ⟨_, rfl⟩
    rw [hA] at EX
    have HA := hiddenN hA
    obtain ⟨NA, hNA⟩ : ∃ q, A.length = q := ⟨_, rfl⟩
    rw [hNA] at EX
    have HNA := hiddenN hNA
    have hN8 : NA ≤ 2048 := by rw [← hNA, ← hA, exp_len]; exact kept_tot l
    have HTK : Hid (totZ (keptZ l) = NA) := by show _ = _; rw [← hNA, ← hA, exp_len]
    have L0 : Hid (Below w.heap.size w w) := Below.refl _ _
    clear hb hs hv hv1 hv2 hE hA hNA HV
    go_upto_region 5 with (go_at_call 5; (with_reducible refine (AW.out w).mono ?_); rintro e V1 ⟨rfl, b⟩; have L1 := hiddenN b; clear b)
    go_upto_region 6 with (first
      | (go_at_call 7; (with_reducible refine (LE.out V1 L1.out).mono ?_); rintro e V2 ⟨g2, c2, rfl, hl, b⟩; rw [HL.out]; have T2 := hiddenN hl; have L2 := hiddenN (L1.out.trans (b.mono L1.out.size)); clear hl b)
      | (go_at_call 6; (with_reducible refine (CK.out V2 _ g2 c2 T2.out).mono ?_); rintro e V3 ⟨rfl, b⟩; have L3 := hiddenN (L2.out.trans (b.mono L2.out.size)); clear b))
    clear L1 L2 T2 CK
    go_upto_region 7 with (first
      | (go_at_call 7; (with_reducible refine (LE.out V3 L3.out).mono ?_); rintro e V4 ⟨g4, c4, rfl, hl, b⟩; rw [HL.out]; have T4 := hiddenN hl; have L4 := hiddenN (L3.out.trans (b.mono L3.out.size)); clear hl b)
      | (go_at_call 8; (with_reducible refine (ME.out V4 _ g4 c4 T4.out).mono ?_); rintro e V5 ⟨rfl, b⟩; have L5 := hiddenN (L4.out.trans (b.mono L4.out.size)); clear b))
    have X6 := hiddenN (blkA_new 29 V5 #[.int .i64 v0, .int .i64 v1, .int .i64 v2, .int .i64 v3])
    have L6 := hiddenN (L5.out.alloc L5.out.size (.cells #[.int .i64 v0, .int .i64 v1, .int .i64 v2, .int .i64 v3] 29))
    obtain ⟨zb, hzb⟩ : ∃ q, V5.heap.size = q := ⟨_, rfl⟩
    rw [hzb] at X6 ⊢
    clear hzb L3 L4 L5 T4 ME
    generalize V5.alloc (.cells #[.int .i64 v0, .int .i64 v1, .int .i64 v2, .int .i64 v3] 29) = V6 at *
    go_upto_region 8 with (first
      | (go_at_call 7; (with_reducible refine (LE.out V6 L6.out).mono ?_); rintro e V7 ⟨g7, c7, rfl, hl, b⟩; rw [HL.out]; have T7 := hiddenN hl; have L7 := hiddenN (L6.out.trans (b.mono L6.out.size)); have X7 := hiddenN (X6.out.below b); clear hl b)
      | (go_at_call 9; (with_reducible refine (EX.out V7 _ g7 c7 T7.out).mono ?_); rintro e V8 ⟨d8, c8, rfl, hc, b⟩; have A8 := hiddenN hc.at; have R8 := hiddenN (fun x hx => (hc.lt x hx).2); have L8 := hiddenN (L7.out.trans (b.mono L7.out.size)); have X8 := hiddenN (X7.out.below b); clear hc b))
    have BL9 := hiddenN (Boxed.new V8 32 (.slice d8 NA c8))
    have b9 := (Below.refl V8.heap.size V8).alloc (Nat.le_refl _) (.cells #[.slice d8 NA c8] 32)
    have L9 := hiddenN (L8.out.trans (b9.mono L8.out.size))
    have X9 := hiddenN (X8.out.below b9)
    have A9 := hiddenN (A8.out.below b9)
    obtain ⟨ab, hab⟩ : ∃ q, V8.heap.size = q := ⟨_, rfl⟩
    rw [hab] at BL9 R8 ⊢
    clear hab b9 L6 L7 L8 X6 X7 X8 T7 A8 EX
    generalize V8.alloc (.cells #[.slice d8 NA c8] 32) = V9 at *
    go_upto_region 9 with fail
    have BN10 := hiddenN (Boxed.new V9 3 (.int .i64 0))
    have b10 := (Below.refl V9.heap.size V9).alloc (Nat.le_refl _) (.cells #[.int .i64 0] 3)
    have L10 := hiddenN (L9.out.trans (b10.mono L9.out.size))
    have X10 := hiddenN (X9.out.below b10)
    have A10 := hiddenN (A9.out.below b10)
    have BL10 := hiddenN (BL9.out.kept (grown_below b10) (by simp))
    obtain ⟨nb, hnb⟩ : ∃ q, V9.heap.size = q := ⟨_, rfl⟩
    have hanb : ab < nb := by rw [← hnb]; exact BL9.out.lt
    rw [hnb] at BN10 ⊢
    have hwn : w.heap.size ≤ nb := by rw [← hnb]; exact L9.out.size
    clear hnb b10 L9 X9 A9 BL9
    generalize V9.alloc (.cells #[.int .i64 0] 3) = V10 at *
    go_upto_region 10 with fail
    have BS11 := hiddenN (Boxed.new V10 4 (.bool true))
    have b11 := (Below.refl V10.heap.size V10).alloc (Nat.le_refl _) (.cells #[.bool true] 4)
    have L11 := hiddenN (L10.out.trans (b11.mono L10.out.size))
    have X11 := hiddenN (X10.out.below b11)
    have A11 := hiddenN (A10.out.below b11)
    have BL11 := hiddenN (BL10.out.kept (grown_below b11) (by simp))
    have BN11 := hiddenN (BN10.out.kept (grown_below b11) (by simp))
    have hns : nb ≠ V10.heap.size := by have := BN10.out.lt; omega
    obtain ⟨sb, hsb⟩ : ∃ q, V10.heap.size = q := ⟨_, rfl⟩
    have hnsb : nb < sb := by rw [← hsb]; exact BN10.out.lt
    rw [hsb] at BS11 hns ⊢
    have hws : w.heap.size ≤ sb := by rw [← hsb]; exact L10.out.size
    clear hsb b11 L10 X10 A10 BL10 BN10
    generalize V10.alloc (.cells #[.bool true] 4) = V11 at *
    go_wp2_with (first
      | (go_at_call 7; (with_reducible refine (LE.out V11 L11.out).mono ?_); rintro e V12 ⟨g12, c12, rfl, hl, b⟩; rw [HL.out]; have T12 := hiddenN hl; have L12 := hiddenN (L11.out.trans (b.mono L11.out.size)); have X12 := hiddenN (X11.out.below b); have A12 := hiddenN (A11.out.below b); have BL12 := hiddenN (BL11.out.kept (grown_below b) (by simp)); have BN12 := hiddenN (BN11.out.kept (grown_below b) (by simp)); have BS12 := hiddenN (BS11.out.kept (grown_below b) (by simp)); clear hl b)
      | (go_at_call 10; (with_reducible refine (AL.out V12 _ g12 c12 T12.out).mono ?_); rintro e V13 ⟨kb, rfl, ha, b⟩; have HK := hiddenN ha; have L13 := hiddenN (L12.out.trans (b.mono L12.out.size)); have X13 := hiddenN (X12.out.below b); have A13 := hiddenN (A12.out.below b); have BL13 := hiddenN (BL12.out.kept (grown_below b) (by simp)); have BN13 := hiddenN (BN12.out.kept (grown_below b) (by simp)); have BS13 := hiddenN (BS12.out.kept (grown_below b) (by simp)); clear ha b))
    have hn0 : ¬ TyZ V13 nb := fun ⟨cs, q⟩ => boxed_ty BN13.out q (by decide) rfl
    have hs0 : ¬ TyZ V13 sb := fun ⟨cs, q⟩ => boxed_ty BS13.out q (by decide) rfl
    have hnl : nb < V13.heap.size := BN13.out.lt
    have hsl : sb < V13.heap.size := BS13.out.lt
    have hal : ab < V13.heap.size := BL13.out.lt
    have han : ab ≠ nb := by omega
    have has : ab ≠ sb := by omega
    clear L11 L12 X11 X12 A11 A12 BL11 BL12 BN11 BN12 BS11 BS12 T12 LE AL
    refine rangeZ 10 rfl (enters_of Try.func18 (by kernel_rfl) rfl) (allZ_stops (9 - 1) V12.heap.size V13 kb l HK.out HS.out) (fun h k => KpZ.trans h k) (kpZ_b (w := V13))
      (fun pre W => AgrZ V13 nb sb A pre W) (fun _ pre _ => ¬ (pre <+: A)) AgrZ.own (fun _ _ _ _ _ hs _ _ => hs) ⟨List.nil_prefix, BN13.out, BS13.out, fun _ _ _ _ => rfl, Nat.le_refl _, rfl, rfl, rfl⟩ ?assign ?body ?done ?stop
    case assign =>
      intro l9 x W K hK
      simp only [List.setIfInBounds_toArray, List.set_cons_zero, List.set_cons_succ] at hK ⊢
      gi_wp2
      exact hK
    case stop =>
      rintro D c' pre W _ hp hx _
      rw [HA.out] at hp
      exact absurd hp hx
    case body =>
      rintro l9 pre x W hg hlt
      simp only [List.setIfInBounds_toArray, List.set_cons_zero, List.set_cons_succ]
      rw [HTK.out] at hlt
      have hlA : pre.length < A.length := by rw [HNA.out]; exact hlt
      have cn := hg.num.cell
      have cs := hg.sam.cell
      have fn := hg.num.frozen
      have fs := hg.sam.frozen
      have ca : W.cell? ⟨ab, 0, none⟩ = some (.slice d8 NA c8) := by
        have := hg.keep ab hal han has
        rw [cell_blk this]
        exact BL13.out.cell
      rcases A13.out with e | ⟨rb, ro, rfl, hrow⟩
      · rw [e] at hlA; exact absurd hlA (Nat.not_lt_zero _)
      have hr1 : rb < ab := R8.out ⟨rb, ro, none⟩ rfl
      have hrb : rb ≠ nb ∧ rb ≠ sb ∧ rb < V13.heap.size := ⟨by omega, by omega, by omega⟩
      have cr : W.cell? ⟨rb, ro + pre.length, none⟩ = some (.int .i64 (nth A pre.length)) := by
        rw [cell_blk (hg.keep rb hrb.2.2 hrb.1 hrb.2.1)]
        exact hrow _ hlA
      have hps := pref_snoc (x := x) hg.pref hlA
      have hpI : (pre.length : Int) < (NA : Int) := by omega
      have hpm : (pre.length : Int) ≤ 2048 := by omega
      have HG := hiddenN hg
      have HPS := hiddenN hps
      clear hg hps hrow hlA
      by_cases hx : nth A pre.length = x
      · have hxb : (nth A pre.length == x) = true := by simpa using hx
        obtain ⟨q1, q2, q3, q4, q5, q6⟩ := HG.out.two hns hnl hsl hn0 hs0 true ((pre.length : Int) + 1)
        have g1 := grownBy_setCell' W sb (.bool true)
        have bn := HG.out.num.kept g1 (fun e => hns (by cases e; rfl))
        have cn2 := bn.cell
        have fn2 := bn.frozen
        have cs2 := q2.cell
        have HPX := hiddenN hx
        have HQ := hiddenN (And.intro q1 (And.intro q2 (And.intro q3 (And.intro q4 (And.intro q5 q6)))))
        clear q1 q2 q3 q4 q5 q6 g1 bn hx
        obtain ⟨y, hy⟩ : ∃ q, nth A pre.length = q := ⟨_, rfl⟩
        rw [hy] at cr hxb
        have HY := hiddenN hy
        clear hy
        obtain ⟨pl, hpl⟩ : ∃ q, pre.length = q := ⟨_, rfl⟩
        have HPL := hiddenN hpl
        rw [hpl] at cr cn cn2 hpI hpm hlt cs2 HQ
        clear hpl
        gi_wp2
        obtain ⟨q1, q2, q3, q4, q5, q6⟩ := HQ.out
        exact ⟨q3, q4, ⟨HPS.out.2 HPX.out, by rw [List.length_append, HPL.out]; exact q1, q2, q5, q6, HG.out.os, HG.out.tape, HG.out.output⟩⟩
      · have hxb : (nth A pre.length == x) = false := by simpa using hx
        obtain ⟨q1, q2, q3, q4, q5, q6⟩ := HG.out.two hns hnl hsl hn0 hs0 false ((pre.length : Int) + 1)
        have g1 := grownBy_setCell' W sb (.bool false)
        have bn := HG.out.num.kept g1 (fun e => hns (by cases e; rfl))
        have cn2 := bn.cell
        have fn2 := bn.frozen
        have cs2 := q2.cell
        have HPX := hiddenN hx
        have HQ := hiddenN (And.intro q1 (And.intro q2 (And.intro q3 (And.intro q4 (And.intro q5 q6)))))
        clear q1 q2 q3 q4 q5 q6 g1 bn hx
        obtain ⟨y, hy⟩ : ∃ q, nth A pre.length = q := ⟨_, rfl⟩
        rw [hy] at cr hxb
        have HY := hiddenN hy
        clear hy
        obtain ⟨pl, hpl⟩ : ∃ q, pre.length = q := ⟨_, rfl⟩
        have HPL := hiddenN hpl
        rw [hpl] at cr cn cn2 hpI hpm hlt cs2 HQ
        clear hpl
        gi_wp2
        obtain ⟨q1, q2, q3, q4, q5, q6⟩ := HQ.out
        exact ⟨q3, fun h => HPX.out (HPS.out.1 h)⟩
    case done =>
      rintro D ys W hD rfl hg hK
      rw [HA.out] at hg
      have hzn : zb ≠ nb := fun e => by have q := X13.out; rw [e] at q; have := (show V13.heap[nb]? = _ from q).symm.trans BN13.out; simp at this
      have hzs : zb ≠ sb := fun e => by have q := X13.out; rw [e] at q; have := (show V13.heap[sb]? = _ from q).symm.trans BS13.out; simp at this
      have cn := hg.num.cell
      rw [HNA.out] at cn
      have cs := hg.sam.cell
      have BLW : Hid (Boxed W ab 32 (.slice d8 NA c8)) := (hg.keep ab hal han has).trans BL13.out
      have ca := BLW.out.cell
      have XW : Hid (BlkA 29 zb W #[.int .i64 v0, .int .i64 v1, .int .i64 v2, .int .i64 v3]) := X13.out.keep (hg.keep zb X13.out.lt hzn hzs)
      have LWq : Hid (Below w.heap.size w W) := ⟨hg.os.trans L13.out.os, hg.tape.trans L13.out.tape, hg.output.trans L13.out.output, Nat.le_trans L13.out.size hg.size, fun k hk => (hg.keep k (Nat.lt_of_lt_of_le hk L13.out.size) (by omega) (by omega)).trans (L13.out.block k hk)⟩
      have HKD := hiddenN hK
      have HD2 : Hid (w.heap.size ≤ D) := Nat.le_trans L13.out.size hD
      have e1 : ((E : Int) != (E : Int)) = false := by simp
      have e2 : ((NA : Int) != (NA : Int)) = false := by simp
      have AWW := hiddenN (AW.out W)
      clear hg hK hD hzn hzs BL13 BN13 BS13 X13 A13 L13
      by_cases he : E = 0
      · subst he
        obtain ⟨w0, w2, w3⟩ := HV1.out rfl
        have ek : keptZ l = l := by unfold keptZ; rw [if_pos HE.out]
        have hTN : totZ l = NA := by have := HTK.out; rwa [ek] at this
        have hpos := err_pos _ _ _ (chk_zero HE.out).1
        have h1 : lvsZ l ≤ NA := by rw [← hTN]; exact lvs_tot hpos
        have h2 : dpsZ 0 l ≤ 16 := err_deep _ _ _ (chk_zero HE.out).1
        have hL0 : (L = 0) ↔ (NA = 0) := by
          rw [← HL.out, ← hTN]
          constructor
          · intro e; rw [List.eq_nil_of_length_eq_zero e, tot_nil]
          · intro e
            by_cases q : l = []
            · rw [q]; rfl
            · have := pos_tot hpos q; omega
        rw [hTN] at w3
        subst w0 w2 w3
        obtain ⟨f0, hf0⟩ : ∃ q, lvsZ l = q := ⟨_, rfl⟩
        obtain ⟨f2, hf2⟩ : ∃ q, dpsZ 0 l = q := ⟨_, rfl⟩
        rw [hf0] at h1 XW
        rw [hf2] at h2 XW
        have h1I : (f0 : Int) ≤ (NA : Int) := by omega
        have h2I : (f2 : Int) ≤ 16 := by omega
        have h3I : (NA : Int) ≤ 2048 := by omega
        have hLN : ((L : Int) == 0) = ((NA : Int) == 0) := by
          by_cases q : L = 0
          · rw [q, hL0.1 q]
          · have q2 : ¬ NA = 0 := fun e => q (hL0.2 e)
            have q3 : ((L : Int) == 0) = false := by simpa using q
            have q4 : ((NA : Int) == 0) = false := by simpa using q2
            rw [q3, q4]
        have HLN := hiddenN hLN
        clear hf0 hf2 hL0 hpos hTN ek h1 h2 hLN
        cases hLb : ((NA : Int) == 0) with
        | true =>
          have hLL : ((L : Int) == 0) = true := by rw [HLN.out]; exact hLb
          go_wp2_with (go_at_call 5; (with_reducible refine AWW.out.mono ?_); rintro e W2 ⟨rfl, b⟩; have LZ := hiddenN (LWq.out.trans (b.mono LWq.out.size)); have HKZ := hiddenN ((b.block D (Array.getElem?_eq_some_iff.1 HKD.out).1).trans HKD.out); have x2 := XW.out.below b; have z0 := x2.cell (k := 0) rfl; have z2 := x2.cell (k := 2) rfl; have z3 := x2.cell (k := 3) rfl; have ca2 := (BLW.out.kept (grown_below b) (by simp)).cell; simp only [List.getElem_toArray, List.getElem_cons_zero, List.getElem_cons_succ] at z0 z2 z3; clear b x2)
          refine ⟨by simp, .inl ⟨_, _, rfl, run_takeDeferred HKZ.out, ?_⟩⟩
          refine ⟨_, results_tmp rfl _ _ _, ?_⟩
          rw [← HRE.out]
          exact ⟨by first | rfl | simp, LZ.out.trans (belowK_b (w := w) (Nat.le_refl _) W2 D _ _ HD2.out HKZ.out rfl rfl)⟩
        | false =>
          have hLL : ((L : Int) == 0) = false := by rw [HLN.out]; exact hLb
          go_wp2_with (go_at_call 5; (with_reducible refine AWW.out.mono ?_); rintro e W2 ⟨rfl, b⟩; have LZ := hiddenN (LWq.out.trans (b.mono LWq.out.size)); have HKZ := hiddenN ((b.block D (Array.getElem?_eq_some_iff.1 HKD.out).1).trans HKD.out); have x2 := XW.out.below b; have z0 := x2.cell (k := 0) rfl; have z2 := x2.cell (k := 2) rfl; have z3 := x2.cell (k := 3) rfl; have ca2 := (BLW.out.kept (grown_below b) (by simp)).cell; simp only [List.getElem_toArray, List.getElem_cons_zero, List.getElem_cons_succ] at z0 z2 z3; clear b x2)
          refine ⟨by simp, .inl ⟨_, _, rfl, run_takeDeferred HKZ.out, ?_⟩⟩
          refine ⟨_, results_tmp rfl _ _ _, ?_⟩
          rw [← HRE.out]
          exact ⟨by first | rfl | simp, LZ.out.trans (belowK_b (w := w) (Nat.le_refl _) W2 D _ _ HD2.out HKZ.out rfl rfl)⟩
      · have hb1 : ((E : Int) != 0) = true := by simpa using he
        obtain ⟨w0, w1, w2, w3⟩ := HV2.out he
        subst w0 w1 w2 w3
        go_wp2_with (go_at_call 5; (with_reducible refine AWW.out.mono ?_); rintro e W2 ⟨rfl, b⟩; have LZ := hiddenN (LWq.out.trans (b.mono LWq.out.size)); have HKZ := hiddenN ((b.block D (Array.getElem?_eq_some_iff.1 HKD.out).1).trans HKD.out); have x2 := XW.out.below b; have z0 := x2.cell (k := 0) rfl; have z1 := x2.cell (k := 1) rfl; have z2 := x2.cell (k := 2) rfl; have z3 := x2.cell (k := 3) rfl; simp only [List.getElem_toArray, List.getElem_cons_zero, List.getElem_cons_succ] at z0 z1 z2 z3; clear b x2)
        refine ⟨by simp, .inl ⟨_, _, rfl, run_takeDeferred HKZ.out, ?_⟩⟩
        refine ⟨_, results_tmp rfl _ _ _, ?_⟩
        rw [← HRE.out]
        exact ⟨by first | rfl | simp, LZ.out.trans (belowK_b (w := w) (Nat.le_refl _) W2 D _ _ HD2.out HKZ.out rfl rfl)⟩
  · refine ⟨_, results_tmp rfl _ _ _, ?_⟩
    rw [← HRE.out]
    exact ⟨rfl, Below.refl _ _⟩
end Go.Proofs.Ythgmdaaiolgjlab
