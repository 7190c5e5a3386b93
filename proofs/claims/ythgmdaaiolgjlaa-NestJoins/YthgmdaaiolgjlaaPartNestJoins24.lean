/- Texts of one chain, laid one behind the other. -/
import Derived.Test.YthgmdaaiolgjlaaPartNestJoins15
import Derived.Test.YthgmdaaiolgjlaaPartNestJoins23
import Derived.Test.YthgmdaaiolgjlaaPartNestJoins11
import Derived.Test.YthgmdaaiolgjlaaPartNestJoins12
import Derived.Test.YthgmdaaiolgjlaaPartNestJoins13
import Derived.Test.YthgmdaaiolgjlaaPartNestJoins21
namespace Go.Proofs.Ythgmdaaiolgjlaa
open Go.ChangeShapes Go.WideShapes Go.ChangeAt Go.RowKit Go.Shelf
attribute [local go_sem] Oper.semAt_some
def inL : List Lp := [⟨3, 0, [⟨1, 1, []⟩, ⟨2, 2, []⟩]⟩]
theorem in_siz : sizZ inL = 3 := by simp [inL, sizZ]
theorem in_lvs : lvsZ inL = 2 := by simp [inL, lvsZ]
theorem in_hds : hdsZ inL = 2 := by simp [inL, hdsZ]
theorem in_dps : dpsZ 0 inL = 1 := by simp [inL, dpsZ]
theorem in_tot : totZ inL = 9 := by simp [inL, totZ]
theorem in_exp : expZ inL = [1, 2, 2, 1, 2, 2, 1, 2, 2] := by simp [inL, expZ, repZ, List.replicate]
theorem in_err : errZ 0 0 inL = 0 := by simp [inL, errZ, flwZ, lvsZ]
theorem in_chk : chkZ inL = 0 := by unfold chkZ; rw [in_err, in_tot]; rfl
theorem in_kept : keptZ inL = inL := by unfold keptZ; rw [if_pos in_chk]
theorem in_sizV : sizV inL = .agg #[.int .i64 2, .int .i64 2, .int .i64 1, .int .i64 9] := by unfold sizV; rw [if_pos in_chk, in_lvs, in_hds, in_dps, in_tot]; rfl
theorem zero_chk : chkZ [⟨0, 0, []⟩] = 160 := by unfold chkZ; simp [errZ, flwZ]
theorem runs_four : runsY [3, 3, -1, 3] = [(3, 2), (-1, 1), (3, 1)] := by decide
theorem flat_two : chkY [(3, 2), (1, 1)] = 0 ∧ flatsY [(3, 2), (1, 1)] = [3, 3, 1] := by decide
set_option maxRecDepth 100000 in
theorem insideZ_any (w : World) : Calls Try.prog 24 #[] w fun e w' => ∃ g, e = .returned (.slice (some ⟨g, 0, none⟩) 1 1) ∧ Nst (· < w'.heap.size) false w' (some ⟨g, 0, none⟩) inL ∧ Below w.heap.size w w' := by
  have b1 := (Below.refl w.heap.size w).alloc (Nat.le_refl _) (.cells #[.int .i64 1, .int .i64 1, .slice none 0 0, .int .i64 2, .int .i64 2, .slice none 0 0] 47)
  have b2 := b1.alloc b1.size (.cells #[.int .i64 3, .int .i64 0, .slice (some ⟨w.heap.size, 0, none⟩) 2 2] 47)
  have hz : (w.alloc (.cells #[.int .i64 1, .int .i64 1, .slice none 0 0, .int .i64 2, .int .i64 2, .slice none 0 0] 47)).heap.size = w.heap.size + 1 := World.size_alloc _ _
  have x1 := (blkA_new 47 w #[.int .i64 1, .int .i64 1, .slice none 0 0, .int .i64 2, .int .i64 2, .slice none 0 0]).below ((Below.refl _ _).alloc (Nat.le_refl _) (.cells #[.int .i64 3, .int .i64 0, .slice (some ⟨w.heap.size, 0, none⟩) 2 2] 47))
  have x2 := blkA_new 47 (w.alloc (.cells #[.int .i64 1, .int .i64 1, .slice none 0 0, .int .i64 2, .int .i64 2, .slice none 0 0] 47)) #[.int .i64 3, .int .i64 0, .slice (some ⟨w.heap.size, 0, none⟩) 2 2]
  have hz2 : ((w.alloc (.cells #[.int .i64 1, .int .i64 1, .slice none 0 0, .int .i64 2, .int .i64 2, .slice none 0 0] 47)).alloc (.cells #[.int .i64 3, .int .i64 0, .slice (some ⟨w.heap.size, 0, none⟩) 2 2] 47)).heap.size = w.heap.size + 1 + 1 := by rw [World.size_alloc, hz]
  rw [hz] at x2
  have HN : Hid (Nst (· < w.heap.size + 1 + 1) false ((w.alloc (.cells #[.int .i64 1, .int .i64 1, .slice none 0 0, .int .i64 2, .int .i64 2, .slice none 0 0] 47)).alloc (.cells #[.int .i64 3, .int .i64 0, .slice (some ⟨w.heap.size, 0, none⟩) 2 2] 47)) (some ⟨w.heap.size + 1, 0, none⟩) inL) := by
    refine .inr ⟨_, 0, rfl, ?_⟩
    unfold inL
    rw [nst_cons, nst_nil]
    refine ⟨Nat.lt_succ_self _, x2.cell (k := 0) rfl, x2.cell (k := 1) rfl, ⟨_, 2, x2.cell (k := 2) rfl, .inr ⟨w.heap.size, 0, rfl, (fun e => by cases e), ?_⟩⟩, fun e => by cases e⟩
    rw [nst_cons, nst_cons, nst_nil]
    exact ⟨Nat.lt_succ_of_lt (Nat.lt_succ_self _), x1.cell (k := 0) rfl, x1.cell (k := 1) rfl, ⟨none, 0, x1.cell (k := 2) rfl, .inl rfl⟩, Nat.lt_succ_of_lt (Nat.lt_succ_self _), x1.cell (k := 3) rfl, x1.cell (k := 4) rfl, ⟨none, 0, x1.cell (k := 5) rfl, .inl rfl⟩, fun e => by cases e⟩
  have B2 := hiddenN b2
  have HZ := hiddenN hz2
  clear b1 b2 x1 x2 hz hz2
  go_enter Try.func24, Try.ntmps24
  go_wp2
  go_ret
  exact ⟨_, rfl, by rw [HZ.out]; exact HN.out, B2.out⟩
attribute [local go_sem] Oper.semAt_some
theorem measIn (u : World) (g : Nat) (h : Nst (· < u.heap.size) false u (some ⟨g, 0, none⟩) inL) : Calls Try.prog 15 #[.slice (some ⟨g, 0, none⟩) 1 1] u fun e w' => e = .returned (.tuple #[.agg #[.int .i64 2, .int .i64 2, .int .i64 1, .int .i64 9], .int .i64 0]) ∧ Below u.heap.size u w' := by
  have := measZ_any inL false (some ⟨g, 0, none⟩) 1 u h (by rw [in_siz]; decide)
  rw [in_sizV, in_chk] at this
  exact this
theorem checkIn (u : World) (g : Nat) (h : Nst (· < u.heap.size) false u (some ⟨g, 0, none⟩) inL) : Calls Try.prog 12 #[.slice (some ⟨g, 0, none⟩) 1 1] u fun e w' => e = .returned (.int .i64 0) ∧ Below u.heap.size u w' := by
  have := checkZ_any inL false (some ⟨g, 0, none⟩) 1 u h (by rw [in_siz]; decide)
  rw [in_chk] at this
  exact this
theorem expIn (u : World) (g : Nat) (h : Nst (· < u.heap.size) false u (some ⟨g, 0, none⟩) inL) : Calls Try.prog 17 #[.slice (some ⟨g, 0, none⟩) 1 1] u fun e w' => ∃ d c, e = .returned (.tuple #[.slice d 9 c, .int .i64 0]) ∧ CapR u.heap.size w' d c [1, 2, 2, 1, 2, 2, 1, 2, 2] ∧ Below u.heap.size u w' := by
  have := expandZ_any inL false (some ⟨g, 0, none⟩) 1 u h (by rw [in_siz]; decide)
  unfold ExpE at this
  rw [in_chk, in_kept, in_exp] at this
  exact this
theorem allIn (u : World) (g : Nat) (h : Nst (· < u.heap.size) false u (some ⟨g, 0, none⟩) inL) : Calls Try.prog 21 #[.slice (some ⟨g, 0, none⟩) 1 1] u fun e w' => ∃ kb, e = .returned (.func (.func 33) #[] #[.pointer (some ⟨kb, 0, none⟩)]) ∧ AllZ u.heap.size w' kb inL ∧ Below u.heap.size u w' :=
  allZ_any inL false (some ⟨g, 0, none⟩) 1 u h (by rw [in_siz]; decide)
theorem checkNo (u : World) : Calls Try.prog 12 #[.slice (some ⟨u.heap.size, 0, none⟩) 1 1] (u.alloc (.cells #[.int .i64 0, .int .i64 0, .slice none 0 0] 47)) fun e w' => e = .returned (.int .i64 160) ∧ Below u.heap.size u w' := by
  have x := blkA_new 47 u #[.int .i64 0, .int .i64 0, .slice none 0 0]
  have hz : (u.alloc (.cells #[.int .i64 0, .int .i64 0, .slice none 0 0] 47)).heap.size = u.heap.size + 1 := World.size_alloc _ _
  have := checkZ_any [⟨0, 0, []⟩] false (some ⟨u.heap.size, 0, none⟩) 1 _ (.inr ⟨_, 0, rfl, nst_cons.2 ⟨(by show _ < _; rw [hz]; exact Nat.lt_succ_self _), x.cell (k := 0) rfl, x.cell (k := 1) rfl, ⟨none, 0, x.cell (k := 2) rfl, .inl rfl⟩, nst_nil.2 (fun e => by cases e)⟩⟩) (by simp [sizZ])
  rw [zero_chk] at this
  refine this.mono fun e w' ⟨h1, h2⟩ => ⟨h1, ?_⟩
  exact ((Below.refl u.heap.size u).alloc (Nat.le_refl _) _).trans (h2.mono (by rw [hz]; exact Nat.le_succ _))
theorem runsIn (u : World) : Calls Try.prog 25 #[.slice (some ⟨u.heap.size, 0, none⟩) 4 4] (u.alloc (.cells #[.int .i64 3, .int .i64 3, .int .i64 (-1), .int .i64 3] 3)) fun e w' => ∃ d c, e = .returned (.slice d 3 c) ∧ CapY u.heap.size w' d c [(3, 2), (-1, 1), (3, 1)] ∧ Below u.heap.size u w' := by
  have x := blkA_new 3 u #[.int .i64 3, .int .i64 3, .int .i64 (-1), .int .i64 3]
  have hz : (u.alloc (.cells #[.int .i64 3, .int .i64 3, .int .i64 (-1), .int .i64 3] 3)).heap.size = u.heap.size + 1 := World.size_alloc _ _
  have := runsZ_any (some ⟨u.heap.size, 0, none⟩) [3, 3, -1, 3] 4 _ (.inr ⟨_, 0, rfl, fun k hk => by
    match k, hk with
    | 0, _ => exact x.cell (k := 0) rfl
    | 1, _ => exact x.cell (k := 1) rfl
    | 2, _ => exact x.cell (k := 2) rfl
    | 3, _ => exact x.cell (k := 3) rfl⟩) (by decide)
  unfold RunE at this
  rw [runs_four, hz] at this
  refine this.mono fun e w' ⟨d, c, h1, h2, h3⟩ => ⟨d, c, h1, h2.mono (Nat.le_succ _), ?_⟩
  exact ((Below.refl u.heap.size u).alloc (Nat.le_refl _) _).trans (h3.mono (Nat.le_succ _))
theorem flatIn (u : World) : Calls Try.prog 26 #[.slice (some ⟨u.heap.size, 0, none⟩) 2 2] (u.alloc (.cells #[.int .i64 3, .int .i64 2, .int .i64 1, .int .i64 1] 54)) fun e w' => ∃ d c, e = .returned (.tuple #[.slice d 3 c, .int .i64 0]) ∧ CapR u.heap.size w' d c [3, 3, 1] ∧ Below u.heap.size u w' := by
  have x := blkA_new 54 u #[.int .i64 3, .int .i64 2, .int .i64 1, .int .i64 1]
  have hz : (u.alloc (.cells #[.int .i64 3, .int .i64 2, .int .i64 1, .int .i64 1] 54)).heap.size = u.heap.size + 1 := World.size_alloc _ _
  have := flatZ_any (some ⟨u.heap.size, 0, none⟩) [(3, 2), (1, 1)] 2 _ (.inr ⟨_, 0, rfl, fun k hk => by
    match k, hk with
    | 0, _ => exact ⟨x.cell (k := 0) rfl, x.cell (k := 1) rfl⟩
    | 1, _ => exact ⟨x.cell (k := 2) rfl, x.cell (k := 3) rfl⟩⟩) (by decide)
  unfold FlaE at this
  rw [flat_two.1, flat_two.2, if_pos rfl, hz] at this
  refine this.mono fun e w' ⟨d, c, h1, h2, h3⟩ => ⟨d, c, h1, h2.mono (Nat.le_succ _), ?_⟩
  exact ((Below.refl u.heap.size u).alloc (Nat.le_refl _) _).trans (h3.mono (Nat.le_succ _))
theorem sameNine (U : World) (a1 : Option Addr) (c1 : Nat) (a2 : Option Addr) (c2 : Nat) (h1 : At U a1 [1, 2, 2, 1, 2, 2, 1, 2, 2]) (h2 : At U a2 [1, 2, 2, 1, 2, 2, 1, 2, 2]) : Calls Try.prog 19 #[.slice a1 9 c1, .slice a2 9 c2] U fun e w' => e = .returned (.bool true) ∧ Below U.heap.size U w' := sameN U a1 a2 [1, 2, 2, 1, 2, 2, 1, 2, 2] c1 c2 (by decide) h1 h2
theorem sameThree (U : World) (a1 : Option Addr) (c1 : Nat) (h1 : At U a1 [3, 3, 1]) : Calls Try.prog 19 #[.slice a1 3 c1, .slice (some ⟨U.heap.size, 0, none⟩) 3 3] (U.alloc (.cells #[.int .i64 3, .int .i64 3, .int .i64 1] 3)) fun e w' => e = .returned (.bool true) ∧ Below U.heap.size U w' := by
  have x := blkA_new 3 U #[.int .i64 3, .int .i64 3, .int .i64 1]
  have b := (Below.refl U.heap.size U).alloc (Nat.le_refl _) (.cells #[.int .i64 3, .int .i64 3, .int .i64 1] 3)
  refine (sameN _ a1 (some ⟨U.heap.size, 0, none⟩) [3, 3, 1] c1 3 (by decide) (h1.below b) (.inr ⟨_, 0, rfl, fun k hk => ?_⟩)).mono fun e w' ⟨h1, h2⟩ => ⟨h1, b.trans (h2.mono b.size)⟩
  match k, hk with
  | 0, _ => exact x.cell (k := 0) rfl
  | 1, _ => exact x.cell (k := 1) rfl
  | 2, _ => exact x.cell (k := 2) rfl
set_option maxRecDepth 100000 in
set_option maxHeartbeats 16000000 in
theorem awake16 (w : World) : Calls Try.prog 11 #[] w fun e w' => e = .returned (.bool true) ∧ Below w.heap.size w w' := by
  have IS := hiddenN insideZ_any
  have ME := hiddenN measIn
  have EX := hiddenN expIn
  have AL := hiddenN allIn
  have CK := hiddenN checkIn
  have C0 := hiddenN checkNo
  have RU := hiddenN runsIn
  have FL := hiddenN flatIn
  have SI9 := hiddenN sameNine
  have SI3 := hiddenN sameThree
  obtain ⟨RE, hRE⟩ : ∃ Q : Ending → World → Prop, (fun e w' => e = .returned (.bool true) ∧ Below w.heap.size w w') = Q := ⟨_, rfl⟩
  rw [hRE]
  have HRE := hiddenN hRE
  clear hRE
  obtain ⟨i0, hi, hz0, hz1, hz2⟩ := info_parts Try.info3
  refine (callsIn_wide (n := 9)).1 (callsIn_of_wp_marks Try.func11 rfl trivial ?_ rfl)
  simp only [Try.ntmps11, List.size_toArray, List.length_nil, Nat.reduceSub, Array.replicate_succ, Array.replicate_zero, List.push_toArray, List.append_toArray, List.nil_append, List.cons_append]
  refine wpIn_wide.2 ?_
  go_upto_region 2 with (first
    | (go_at_call 24; (with_reducible refine (IS.out _).mono ?_); rintro e V1 ⟨g1, rfl, hn1, b1⟩; have N1 := hiddenN hn1; have L1 := hiddenN b1; clear hn1 b1)
    | (go_at_call 15; (with_reducible refine (ME.out V1 g1 N1.out).mono ?_); rintro e V2 ⟨rfl, b2⟩; have L2 := hiddenN (L1.out.trans (b2.mono L1.out.size)); clear b2))
  have X2 := hiddenN (blkA_new 31 V2 #[.int .i64 2, .int .i64 2, .int .i64 1, .int .i64 9])
  have L3 := hiddenN (L2.out.alloc L2.out.size (.cells #[.int .i64 2, .int .i64 2, .int .i64 1, .int .i64 9] 31))
  obtain ⟨x1, hx1⟩ : ∃ q, V2.heap.size = q := ⟨_, rfl⟩
  rw [hx1] at X2 ⊢
  clear hx1 L1 N1
  generalize V2.alloc (.cells #[.int .i64 2, .int .i64 2, .int .i64 1, .int .i64 9] 31) = V3 at *
  go_upto_region 3 with (first
    | (go_at_call 24; (with_reducible refine (IS.out V3).mono ?_); rintro e V4 ⟨g4, rfl, hn4, b4⟩; have N4 := hiddenN hn4; have L4 := hiddenN (L3.out.trans (b4.mono L3.out.size)); have X4 := hiddenN (X2.out.below b4); clear hn4 b4)
    | (go_at_call 17; (with_reducible refine (EX.out V4 g4 N4.out).mono ?_); rintro e V5 ⟨d5, c5, rfl, hc5, b5⟩; have E5 := hiddenN hc5.at; have L5 := hiddenN (L4.out.trans (b5.mono L4.out.size)); have X5 := hiddenN (X4.out.below b5); clear hc5 b5))
  clear L3 L4 X2 X4 N4
  have RU5 := hiddenN (RU.out V5)
  go_upto_region 4 with (go_at_call 25; (with_reducible refine RU5.out.mono ?_); rintro e V6 ⟨d6, c6, rfl, hc6, b6⟩; have R6 := hiddenN hc6; have L6 := hiddenN (L5.out.trans (b6.mono L5.out.size)); have X6 := hiddenN (X5.out.below b6); have E6 := hiddenN (E5.out.below b6); clear hc6 b6)
  have FL6 := hiddenN (FL.out V6)
  go_upto_region 7 with (go_at_call 26; (with_reducible refine FL6.out.mono ?_); rintro e V7 ⟨d7, c7, rfl, hc7, b7⟩; have F7 := hiddenN hc7.at; have L7 := hiddenN (L6.out.trans (b7.mono L6.out.size)); have X7 := hiddenN (X6.out.below b7); have E7 := hiddenN (E6.out.below b7); have R7 := hiddenN (R6.out.later b7); clear hc7 b7)
  clear L5 L6 X5 X6 E5 E6 R6 RU5 FL6
  have b8 := (Below.refl V7.heap.size V7).alloc (Nat.le_refl _) (.cells #[.slice none 0 0] 35)
  have B8 := hiddenN b8
  have BX := hiddenN (Boxed.new V7 35 (.slice none 0 0))
  go_upto_region 8 with fail
  obtain ⟨lb, hlb⟩ : ∃ q, V7.heap.size = q := ⟨_, rfl⟩
  have HLB := hiddenN hlb
  rw [hlb] at BX ⊢
  clear b8 hlb
  generalize V7.alloc (.cells #[.slice none 0 0] 35) = V8 at *
  go_wp2_with (first
    | (go_at_call 24; (with_reducible refine (IS.out V8).mono ?_); rintro e V9 ⟨g9, rfl, hn9, b9⟩; have N9 := hiddenN hn9; have B9 := hiddenN (B8.out.trans (b9.mono B8.out.size)); have BX9 := hiddenN (BX.out.kept (grown_below b9) (by simp)); clear hn9 b9)
    | (go_at_call 21; (with_reducible refine (AL.out V9 g9 N9.out).mono ?_); rintro e V10 ⟨kb, rfl, ha, b10⟩; have HA := hiddenN ha; have B10 := hiddenN (B9.out.trans (b10.mono B9.out.size)); have BX10 := hiddenN (BX9.out.kept (grown_below b10) (by simp)); clear ha b10))
  have hT9 : Hid (totZ (keptZ inL) = 9) := by show _ = _; rw [in_kept, in_tot]
  have hE9 : Hid (expZ (keptZ inL) = [1, 2, 2, 1, 2, 2, 1, 2, 2]) := by show _ = _; rw [in_kept, in_exp]
  have HLW : Hid (w.heap.size ≤ V10.heap.size) := Nat.le_trans L7.out.size B10.out.size
  have hlb2 : V7.heap.size ≤ lb := by rw [HLB.out]; exact Nat.le_refl _
  refine rangeZ 9 rfl (enters_of Try.func33 (by kernel_rfl) rfl) (allZ_stops (9 - 1) V9.heap.size V10 kb inL HA.out (by rw [in_siz]; decide)) (fun h k => KpZ.trans h k) (kpZ_b (w := V10))
    (fun pre W => ColZ V7.heap.size V7 V10 lb pre W) (fun _ _ _ => False) (ColZ.own B10.out.size (Nat.le_refl _)) (fun _ _ _ _ _ hs _ _ => hs) ⟨⟨_, BX10.out, World.ownsRow_nil _ _ _ _, fun _ => rfl⟩, B10.out, KpZ.refl _ _⟩ ?assign ?body ?done ?stop
  case assign =>
    intro l9 x W K hK
    simp only [List.setIfInBounds_toArray, List.set_cons_zero, List.set_cons_succ] at hK ⊢
    gi_wp2
    exact hK
  case body =>
    rintro l9 pre x W hcol hlt
    simp only [List.setIfInBounds_toArray, List.set_cons_zero, List.set_cons_succ]
    obtain ⟨v, hv, hrow, hnil⟩ := hcol.box
    have hB := hcol.below
    have hc := hv.cell
    rw [hT9.out] at hlt
    gi_wp2_with (gi_at_builtin; refine wpListIn_append_own _ rfl _ _ 35 rfl V7.heap.size 3 i0 (.int .i64 0) 1 8 Try.underlying35 hi hz0 hz1 hz2 rfl (by decide) _ _ _ rfl (hrow.alloc _) ⟨W.heap.size, 0, none⟩ 1 1 [.int .i64 x] rfl rfl (cell_one_new _ _ _) (by simp [Value.oneCell']) (by unfold maxLen; omega) (by omega) (by have := hB.size; simp; omega) ?_; intro v' w1 hown' hgrow _; obtain ⟨g', cap', rfl⟩ := ownsRow_succ hown'; obtain ⟨hv1, hk2, hkp, hcol2⟩ := hcol.step hv hrow hlb2 hB.size (by intro e; cases e) hown' hgrow; have hc1 := hv1.cell; have hf1 := hv1.frozen)
    exact ⟨hk2, hkp, hcol2⟩
  case stop =>
    rintro D c' pre W _ _ h _
    exact h.elim
  case done =>
    rintro D ys W hD rfl hcol hK
    rw [hE9.out] at hcol
    obtain ⟨v, hv, hrow, hnil⟩ := hcol.box
    obtain ⟨d, c9, rfl⟩ : ∃ d c9, v = .slice d 9 c9 := row_slice hrow
    have D0 : Hid (CapR V7.heap.size W d c9 [1, 2, 2, 1, 2, 2, 1, 2, 2]) := hrow
    have BX0 := hiddenN hv
    have B0 := hiddenN hcol.below
    have HK := hiddenN hK
    have E0 := hiddenN (E7.out.below B0.out)
    have F0 := hiddenN (F7.out.below B0.out)
    have R0 := hiddenN (R7.out.later B0.out)
    have X0 := hiddenN (X7.out.below B0.out)
    have L0 := hiddenN (L7.out.trans (B0.out.mono L7.out.size))
    clear hcol hrow hnil hv hK E7 F7 R7 X7 L7 B8 B9 B10 BX BX9 BX10 HA N9
    go_upto_region 12 with fail
    have b1 := (Below.refl W.heap.size W).alloc (Nat.le_refl _) (.cells #[.int .i64 1, .int .i64 2, .int .i64 2, .int .i64 1, .int .i64 2, .int .i64 2, .int .i64 1, .int .i64 2, .int .i64 2] 3)
    have D1 := hiddenN (D0.out.at.below b1)
    have BX1 := hiddenN (BX0.out.kept (grown_below b1) (by simp))
    have HK1 := hiddenN ((b1.block D (Array.getElem?_eq_some_iff.1 HK.out).1).trans HK.out)
    have E1 := hiddenN (E0.out.below b1)
    have F1 := hiddenN (F0.out.below b1)
    have R1 := hiddenN (R0.out.later b1)
    have X1 := hiddenN (X0.out.below b1)
    have L1 := hiddenN (L0.out.trans (b1.mono L0.out.size))
    have W9 : Hid (At (W.alloc (.cells #[.int .i64 1, .int .i64 2, .int .i64 2, .int .i64 1, .int .i64 2, .int .i64 2, .int .i64 1, .int .i64 2, .int .i64 2] 3)) (some ⟨W.heap.size, 0, none⟩) [1, 2, 2, 1, 2, 2, 1, 2, 2]) := by
      have x := blkA_new 3 W #[.int .i64 1, .int .i64 2, .int .i64 2, .int .i64 1, .int .i64 2, .int .i64 2, .int .i64 1, .int .i64 2, .int .i64 2]
      refine .inr ⟨_, 0, rfl, fun k hk => ?_⟩
      match k, hk with
      | 0, _ => exact x.cell (k := 0) rfl
      | 1, _ => exact x.cell (k := 1) rfl
      | 2, _ => exact x.cell (k := 2) rfl
      | 3, _ => exact x.cell (k := 3) rfl
      | 4, _ => exact x.cell (k := 4) rfl
      | 5, _ => exact x.cell (k := 5) rfl
      | 6, _ => exact x.cell (k := 6) rfl
      | 7, _ => exact x.cell (k := 7) rfl
      | 8, _ => exact x.cell (k := 8) rfl
    obtain ⟨wb, hwb⟩ : ∃ q, W.heap.size = q := ⟨_, rfl⟩
    rw [hwb] at W9 ⊢
    clear b1 hwb D0 BX0 HK E0 F0 R0 X0 L0
    generalize W.alloc (.cells #[.int .i64 1, .int .i64 2, .int .i64 2, .int .i64 1, .int .i64 2, .int .i64 2, .int .i64 1, .int .i64 2, .int .i64 2] 3) = W1 at *
    have y0 := X1.out.cell (k := 0) rfl
    have y1 := X1.out.cell (k := 1) rfl
    have y2 := X1.out.cell (k := 2) rfl
    have y3 := X1.out.cell (k := 3) rfl
    simp only [List.getElem_toArray, List.getElem_cons_zero, List.getElem_cons_succ] at y0 y1 y2 y3
    have S1 := hiddenN (SI9.out W1 d5 c5 (some ⟨wb, 0, none⟩) 9 E1.out W9.out)
    go_upto_region 13 with (first
      | (go_at_call 19; (with_reducible refine S1.out.mono ?_); clear S1; rintro e W2 ⟨rfl, b2⟩; have D2 := hiddenN (D1.out.below b2); have W92 := hiddenN (W9.out.below b2); have zb := (BX1.out.kept (grown_below b2) (by simp)).cell; have HK2 := hiddenN ((b2.block D (Array.getElem?_eq_some_iff.1 HK1.out).1).trans HK1.out); have F2 := hiddenN (F1.out.below b2); have R2 := hiddenN (R1.out.later b2); have L2 := hiddenN (L1.out.trans (b2.mono L1.out.size)); have S2 := hiddenN (SI9.out W2 d c9 (some ⟨wb, 0, none⟩) 9 D2.out W92.out); clear b2)
      | (go_at_call 19; (with_reducible refine S2.out.mono ?_); clear S2; rintro e W3 ⟨rfl, b3⟩; have HK3 := hiddenN ((b3.block D (Array.getElem?_eq_some_iff.1 HK2.out).1).trans HK2.out); have R3 := hiddenN (R2.out.later b3); have L3 := hiddenN (L2.out.trans (b3.mono L2.out.size)); have S3 := hiddenN (SI3.out W3 d7 c7 (F2.out.below b3)); clear b3)
      | (go_at_call 19; (with_reducible refine S3.out.mono ?_); clear S3; rintro e W4 ⟨rfl, b4⟩; have HK4 := hiddenN ((b4.block D (Array.getElem?_eq_some_iff.1 HK3.out).1).trans HK3.out); have R4 := hiddenN (R3.out.later b4); have L4 := hiddenN (L3.out.trans (b4.mono L3.out.size)); clear b4))
    clear y0 y1 y2 y3 zb
    go_upto_region 14 with (first
      | (go_at_call 24; (with_reducible refine (IS.out W4).mono ?_); rintro e W5 ⟨g5, rfl, hn5, b5⟩; have N5 := hiddenN hn5; have HK5 := hiddenN ((b5.block D (Array.getElem?_eq_some_iff.1 HK4.out).1).trans HK4.out); have R5 := hiddenN (R4.out.later b5); have L5 := hiddenN (L4.out.trans (b5.mono L4.out.size)); have CK5 := hiddenN (CK.out W5 g5 N5.out); clear hn5 b5)
      | (go_at_call 12; (with_reducible refine CK5.out.mono ?_); clear CK5; rintro e W6 ⟨rfl, b6⟩; have HK6 := hiddenN ((b6.block D (Array.getElem?_eq_some_iff.1 HK5.out).1).trans HK5.out); have R6 := hiddenN (R5.out.later b6); have L6 := hiddenN (L5.out.trans (b6.mono L5.out.size)); have C06 := hiddenN (C0.out W6); clear b6)
      | (go_at_call 12; (with_reducible refine C06.out.mono ?_); clear C06; rintro e W7 ⟨rfl, b7⟩; have HK7 := hiddenN ((b7.block D (Array.getElem?_eq_some_iff.1 HK6.out).1).trans HK6.out); have R7 := hiddenN (R6.out.later b7); have L7 := hiddenN (L6.out.trans (b7.mono L6.out.size)); clear b7))
    obtain ⟨g6, rfl⟩ := capY_some R7.out (by simp)
    have r0 := capY_cell0 R7.out (k := 0) (by decide)
    have r1 := capY_cell1 R7.out (k := 0) (by decide)
    rw [show (nthY [(3, 2), (-1, 1), (3, 1)] 0).1 = 3 from rfl, Nat.zero_mul] at r0
    rw [show (nthY [(3, 2), (-1, 1), (3, 1)] 0).2 = 2 from rfl, Nat.zero_mul, Nat.zero_add] at r1
    go_wp2
    refine ⟨by simp, .inl ⟨_, _, rfl, run_takeDeferred HK7.out, ?_⟩⟩
    refine ⟨_, results_tmp rfl _ _ _, ?_⟩
    rw [← HRE.out]
    exact ⟨by first | rfl | simp, L7.out.trans (belowK_b (w := w) (Nat.le_refl _) W7 D _ _ (by have := L1.out.size; have := HLW.out; omega) HK7.out rfl rfl)⟩
theorem nst_more {m : Bool} {w w' : World} {a : Option Addr} {l : List Lp} (h : Nst (· < w.heap.size) m w a l) (hb : Below w.heap.size w w') : Nst (· < w'.heap.size) m w' a l := (h.below hb).mono fun _ hk => Nat.lt_of_lt_of_le hk hb.size
theorem capR_off {B : Nat} {w : World} {a : Option Addr} {c : Nat} {zs : List Int} (h : CapR B w a c zs) (e : a = none) : zs.length = 0 ∧ c = 0 := by
  subst e
  exact h.noneN
theorem capZ_lies {B : Nat} {w : World} {g c : Nat} {T : List Lv} (h : CapZ B w (some ⟨g, 0, none⟩) c T) : ∀ j u, (flatZ T)[j]? = some u → w.cell? (Addr.add ⟨g, 0, none⟩ j) = some u := by
  intro j u hu
  have hj : j < (flatZ T).length := (List.getElem?_eq_some_iff.1 hu).1
  rw [flatZ_len] at hj
  have := World.ownsRow.cellAt h j (by omega)
  rw [hu] at this
  rw [show Addr.add ⟨g, 0, none⟩ j = ⟨g, j, none⟩ by simp [Addr.add]; exact fun e => e.symm]
  exact this
/-- A nest behind a nest. -/
theorem wpList_joinZ {w : World} {ops : Array Oper} {rest : List Oper} {o : Oper} {act : Act} {Q : Exit → Act → World → Prop} (hgd : o.guard = none) (s x : Operand) (ho : o.op = .call { callee := .builtin .append, args := #[s, x], argTypes := #[22, 22] })
    {B1 B2 g1 c1 g2 c2 : Nat} {a b : List Lp} (ha : LtdZ B1 w g1 c1 a) (hb : LtdZ B2 w g2 c2 b) (h12 : g1 < B2) (n m : Nat) (hn : a.length = n) (hm : b.length = m) (hs : act.eval s = .slice (some ⟨g1, 0, none⟩) n c1) (hx : act.eval x = .slice (some ⟨g2, 0, none⟩) m c2) (hsz : n + m ≤ 1000000) (hB : B1 ≤ w.heap.size)
    (h : ∀ d c' w', Nst (· < w'.heap.size) false w' d (a ++ b) → Below B1 w w' → wpList Try.prog ops Q rest (act.put o.dst (.slice d (n + m) c')) w') : wpList Try.prog ops Q (o :: rest) act w := by
  obtain ⟨S, hS, hSa⟩ := ha.row
  obtain ⟨T, hT, hTb⟩ := hb.row
  have eS : S.length = n := by rw [hSa.len, hn]
  have eT : T.length = m := by rw [hTb.len, hm]
  obtain ⟨i0, hi, hz0, hz1, hz2⟩ := info_parts Try.infoLoop
  refine wpList_append_own _ hgd s x 22 ho B1 47 i0 _ 3 40 Try.underlying22 hi hz0 hz1 hz2 rfl (by decide) _ n (flatZ S) hs (by have := hS; unfold CapZ at this; rwa [eS] at this) ⟨g2, 0, none⟩ m c2 (flatZ T) hx (by rw [flatZ_len, eT]) (capZ_lies hT) (flatZ_one T) (by unfold maxLen; omega) (by omega) hB ?_
  intro v' w' hown hgrow _
  obtain ⟨d, c', rfl⟩ := row_slice hown
  have hC : CapZ B1 w' d c' (S ++ T) := by
    unfold CapZ
    rw [flatZ_append, List.length_append, eS, eT]
    exact hown
  have hg : w.grownBy w' (some g1) := hgrow
  have hkeep : ∀ k, k < w.heap.size → k ≠ g1 → w'.heap[k]? = w.heap[k]? := fun k hk hne => hg.block k hk (fun e => hne (by cases e; rfl))
  refine h d c' w' ?_ ((Below.refl _ _).grown hg hB (fun k hk => by cases hk; exact ha.lo))
  by_cases h0 : S ++ T = []
  · refine .inl (List.eq_nil_of_length_eq_zero ?_)
    have := congrArg List.length h0
    rw [List.length_append, eS, eT, List.length_nil] at this
    rw [List.length_append, hn, hm]
    exact this
  · obtain ⟨g, rfl⟩ := hC.there h0
    have hM : MchZ (fun k => k < w'.heap.size) false w' (S ++ T) (a ++ b) := by
      refine MchZ.append (MchZ.mono (fun k hk => ?_) (MchZ.keep (fun k hk => ?_) hSa.bare)) (MchZ.mono (fun k hk => ?_) (MchZ.keep (fun k hk => ?_) hTb.bare))
      · exact Nat.lt_of_lt_of_le hk.2.1.lt hg.size
      · exact hkeep k hk.2.1.lt hk.2.2
      · exact Nat.lt_of_lt_of_le hk.2.1.lt hg.size
      · exact hkeep k hk.2.1.lt (by have := hk.1; omega)
    refine .inr ⟨g, 0, rfl, nst_of_row (F := fun k => k < w'.heap.size) (m := false) (b := g) (S := S ++ T) (hC.lt _ rfl).2 hM (fun k hk j hj => ?_) (fun e => by cases e)⟩
    rw [Nat.zero_add]
    exact hC.cell hk hj
theorem siz_is {l : List Lp} {v0 v1 v2 v3 : Int} (h : sizV l = .agg #[.int .i64 v0, .int .i64 v1, .int .i64 v2, .int .i64 v3]) : (chkZ l = 0 → v0 = (lvsZ l : Int) ∧ v1 = (hdsZ l : Int) ∧ v2 = (dpsZ 0 l : Int) ∧ v3 = (totZ l : Int)) ∧ (chkZ l ≠ 0 → v0 = 0 ∧ v1 = 0 ∧ v2 = 0 ∧ v3 = 0) := by
  unfold sizV at h
  constructor
  · intro e
    rw [if_pos e] at h
    simp at h
    exact ⟨h.1.symm, h.2.1.symm, h.2.2.1.symm, h.2.2.2.symm⟩
  · intro e
    rw [if_neg e] at h
    simp at h
    exact ⟨h.1.symm, h.2.1.symm, h.2.2.1.symm, h.2.2.2.symm⟩
theorem siz_fourJ (l : List Lp) : ∃ v0 v1 v2 v3 : Int, sizV l = .agg #[.int .i64 v0, .int .i64 v1, .int .i64 v2, .int .i64 v3] := by
  unfold sizV
  split
  · exact ⟨_, _, _, _, rfl⟩
  · exact ⟨_, _, _, _, rfl⟩
set_option maxRecDepth 100000 in
set_option maxHeartbeats 16000000 in
theorem nestJoins_walk (xa : Option Addr) (a : List Lp) (ca : Nat) (xb : Option Addr) (b : List Lp) (cb : Nat) (w : World) (ha : Nst (· < w.heap.size) false w xa a) (hb : Nst (· < w.heap.size) false w xb b) : Calls Try.prog 7 #[.slice xa a.length ca, .slice xb b.length cb] w fun e w' => e = .returned (.bool true) ∧ Below w.heap.size w w' := by
  have HVa := hiddenN (heavyZ_any a (· < w.heap.size) false xa ca w ha)
  have HVb := hiddenN (heavyZ_any b (· < w.heap.size) false xb cb w hb)
  have AW := hiddenN awake16
  obtain ⟨RE, hRE⟩ : ∃ Q : Ending → World → Prop, (fun e w' => e = .returned (.bool true) ∧ Below w.heap.size w w') = Q := ⟨_, rfl⟩
  rw [hRE]
  have HRE := hiddenN hRE
  have HNa := hiddenN ha
  have HNb := hiddenN hb
  obtain ⟨LA, hLA⟩ : ∃ q, a.length = q := ⟨_, rfl⟩
  obtain ⟨LB, hLB⟩ : ∃ q, b.length = q := ⟨_, rfl⟩
  have HLa := hiddenN hLA
  have HLb := hiddenN hLB
  rw [hLA] at HVa ⊢
  rw [hLB] at HVb ⊢
  clear hRE ha hb hLA hLB
  go_enter Try.func7, Try.ntmps7
  go_upto_region 3 with (first
    | (go_at_call 9; (with_reducible refine HVb.out.mono ?_); rintro e V0 ⟨b2, rfl, hb2, hw⟩; subst hw; cases b2)
    | (go_at_call 9; (with_reducible refine HVa.out.mono ?_); rintro e V0 ⟨b1, rfl, hb1, hw⟩; subst hw; cases b1))
  · have hsa : sizZ a ≤ 65536 := by simpa using hb1
    have hsb : sizZ b ≤ 65536 := by simpa using hb2
    have HSa : Hid (sizZ a ≤ 1000000) := by show _ ≤ _; omega
    have HSb : Hid (sizZ b ≤ 1000000) := by show _ ≤ _; omega
    have HSn : Hid (sizZ (a ++ b) ≤ 1000000) := by show _ ≤ _; rw [siz_app]; omega
    have hla : LA ≤ 65536 := by have := len_siz a; rw [HLa.out] at this; omega
    have hlb : LB ≤ 65536 := by have := len_siz b; rw [HLb.out] at this; omega
    have HHa : Hid (hdsZ a ≤ 65536) := Nat.le_trans (hds_siz a) hsa
    have HHb : Hid (hdsZ b ≤ 65536) := Nat.le_trans (hds_siz b) hsb
    have LEa : Hid (∀ u, Below w.heap.size w u → Calls Try.prog 10 #[.slice xa LA ca] u (LenE a u)) := fun u hu => by
      have := lentZ_any a w.heap.size false xa ca u (HNa.out.below hu) hu.size HSa.out
      rwa [HLa.out] at this
    have LEb : Hid (∀ u, Below w.heap.size w u → Calls Try.prog 10 #[.slice xb LB cb] u (LenE b u)) := fun u hu => by
      have := lentZ_any b w.heap.size false xb cb u (HNb.out.below hu) hu.size HSb.out
      rwa [HLb.out] at this
    have MEa : Hid (∀ u B g cc, LtdZ B u g cc a → Calls Try.prog 15 #[.slice (some ⟨g, 0, none⟩) LA cc] u fun e w' => e = .returned (.tuple #[sizV a, .int .i64 (chkZ a : Int)]) ∧ Below u.heap.size u w') := fun u B g cc h => by
      have := measZ_any a true (some ⟨g, 0, none⟩) cc u h.bare HSa.out
      rwa [HLa.out] at this
    have MEb : Hid (∀ u B g cc, LtdZ B u g cc b → Calls Try.prog 15 #[.slice (some ⟨g, 0, none⟩) LB cc] u fun e w' => e = .returned (.tuple #[sizV b, .int .i64 (chkZ b : Int)]) ∧ Below u.heap.size u w') := fun u B g cc h => by
      have := measZ_any b true (some ⟨g, 0, none⟩) cc u h.bare HSb.out
      rwa [HLb.out] at this
    have MEn : Hid (∀ u d cc, Nst (· < u.heap.size) false u d (a ++ b) → Calls Try.prog 15 #[.slice d (LA + LB) cc] u fun e w' => e = .returned (.tuple #[sizV (a ++ b), .int .i64 (chkZ (a ++ b) : Int)]) ∧ Below u.heap.size u w') := fun u d cc h => by
      have := measZ_any (a ++ b) false d cc u h HSn.out
      rwa [List.length_append, HLa.out, HLb.out] at this
    have EXa : Hid (∀ u B g cc, LtdZ B u g cc a → Calls Try.prog 17 #[.slice (some ⟨g, 0, none⟩) LA cc] u (ExpE a u)) := fun u B g cc h => by
      have := expandZ_any a true (some ⟨g, 0, none⟩) cc u h.bare HSa.out
      rwa [HLa.out] at this
    have EXb : Hid (∀ u B g cc, LtdZ B u g cc b → Calls Try.prog 17 #[.slice (some ⟨g, 0, none⟩) LB cc] u (ExpE b u)) := fun u B g cc h => by
      have := expandZ_any b true (some ⟨g, 0, none⟩) cc u h.bare HSb.out
      rwa [HLb.out] at this
    have EXn : Hid (∀ u d cc, Nst (· < u.heap.size) false u d (a ++ b) → Calls Try.prog 17 #[.slice d (LA + LB) cc] u (ExpE (a ++ b) u)) := fun u d cc h => by
      have := expandZ_any (a ++ b) false d cc u h HSn.out
      rwa [List.length_append, HLa.out, HLb.out] at this
    unfold LenE at LEa LEb
    unfold ExpE at EXa EXb EXn
    obtain ⟨p0, p1, p2, p3, hvp⟩ := siz_fourJ a
    obtain ⟨q0, q1, q2, q3, hvq⟩ := siz_fourJ b
    obtain ⟨r0, r1, r2, r3, hvr⟩ := siz_fourJ (a ++ b)
    rw [hvp] at MEa
    rw [hvq] at MEb
    rw [hvr] at MEn
    have SP := hiddenN (siz_is hvp)
    have SQ := hiddenN (siz_is hvq)
    have SR := hiddenN (siz_is hvr)
    obtain ⟨E, hE⟩ : ∃ q, chkZ a = q := ⟨_, rfl⟩
    obtain ⟨F, hF⟩ : ∃ q, chkZ b = q := ⟨_, rfl⟩
    obtain ⟨G, hG⟩ : ∃ q, chkZ (a ++ b) = q := ⟨_, rfl⟩
    have HE := hiddenN hE
    have HF := hiddenN hF
    have HG := hiddenN hG
    rw [hE] at MEa EXa SP
    rw [hF] at MEb EXb SQ
    rw [hG] at MEn EXn SR
    have L0 := hiddenN (Below.refl w.heap.size w)
    clear hb1 hb2 hsa hsb HVa HVb hvp hvq hvr hE hF hG
    go_upto_region 4 with (first
      | (go_at_call 15; (with_reducible refine (MEa.out V1 _ gt ct T1.out).mono ?_); rintro e V2 ⟨rfl, b⟩; have L2 := hiddenN (L1.out.trans (b.mono L1.out.size)); clear b)
      | (go_at_call 10; (with_reducible refine (LEa.out w L0.out).mono ?_); rintro e V1 ⟨gt, ct, rfl, hl, b⟩; rw [HLa.out]; have T1 := hiddenN hl; have L1 := hiddenN (L0.out.trans (b.mono L0.out.size)); clear hl b))
    clear T1 L1
    have b := (Below.refl V2.heap.size V2).alloc (Nat.le_refl _) (.cells #[.int .i64 p0, .int .i64 p1, .int .i64 p2, .int .i64 p3] 31)
    have L3 := hiddenN (L2.out.trans (b.mono L2.out.size))
    have XS3 := hiddenN (blkA_new 31 V2 #[.int .i64 p0, .int .i64 p1, .int .i64 p2, .int .i64 p3])
    obtain ⟨sb, hsb⟩ : ∃ q, V2.heap.size = q := ⟨_, rfl⟩
    rw [hsb] at XS3 ⊢
    clear b hsb L2
    generalize V2.alloc (.cells #[.int .i64 p0, .int .i64 p1, .int .i64 p2, .int .i64 p3] 31) = V3 at *
    go_upto_region 5 with (first
      | (go_at_call 15; (with_reducible refine (MEb.out V4 _ gu cu U4.out).mono ?_); rintro e V5 ⟨rfl, b⟩; have L5 := hiddenN (L4.out.trans (b.mono L4.out.size)); have XS5 := hiddenN (XS4.out.below b); clear b)
      | (go_at_call 10; (with_reducible refine (LEb.out V3 L3.out).mono ?_); rintro e V4 ⟨gu, cu, rfl, hl, b⟩; rw [HLb.out]; have U4 := hiddenN hl; have L4 := hiddenN (L3.out.trans (b.mono L3.out.size)); have XS4 := hiddenN (XS3.out.below b); clear hl b))
    clear U4 L4 XS4 L3 XS3
    have b := (Below.refl V5.heap.size V5).alloc (Nat.le_refl _) (.cells #[.int .i64 q0, .int .i64 q1, .int .i64 q2, .int .i64 q3] 31)
    have L6 := hiddenN (L5.out.trans (b.mono L5.out.size))
    have XS6 := hiddenN (XS5.out.below b)
    have XT6 := hiddenN (blkA_new 31 V5 #[.int .i64 q0, .int .i64 q1, .int .i64 q2, .int .i64 q3])
    obtain ⟨tb, htb⟩ : ∃ q, V5.heap.size = q := ⟨_, rfl⟩
    rw [htb] at XT6 ⊢
    clear b htb L5 XS5
    generalize V5.alloc (.cells #[.int .i64 q0, .int .i64 q1, .int .i64 q2, .int .i64 q3] 31) = V6 at *
    go_upto_region 6 with (first
      | (at_builtin; refine wpList_joinZ rfl _ _ rfl T8.out U8.out HSEP.out LA LB HLa.out HLb.out rfl rfl (by omega) H68.out ?_; intro dn cn V9 hN b; have N9 := hiddenN hN; have L9 := hiddenN (L8.out.trans (b.mono L6s.out)); have XS9 := hiddenN (XS6.out.below ((HB68.out).trans b)); have XT9 := hiddenN (XT6.out.below ((HB68.out).trans b)); clear hN b)
      | (go_at_call 10; (with_reducible refine (LEb.out V7 L7.out).mono ?_); rintro e V8 ⟨gu, cu, rfl, hl, b⟩; rw [HLb.out]; have U8 := hiddenN hl; have L8 := hiddenN (L7.out.trans (b.mono L7.out.size)); have T8 := hiddenN (T7.out.later b); have HSEP := hiddenN T7.out.hi; have HB68 := hiddenN (HB67.out.trans (b.mono HB67.out.size)); have H68 := hiddenN (HB67.out.trans (b.mono HB67.out.size)).size; clear hl b)
      | (go_at_call 10; (with_reducible refine (LEa.out V6 L6.out).mono ?_); rintro e V7 ⟨gt, ct, rfl, hl, b⟩; rw [HLa.out]; have T7 := hiddenN hl; have HB67 := hiddenN b; have L6s := hiddenN L6.out.size; have L7 := hiddenN (L6.out.trans (b.mono L6.out.size)); clear hl b))
    clear T7 T8 U8 HSEP HB67 HB68 H68 L6s L6 L7 L8 XS6 XT6
    go_upto_region 7 with (go_at_call 15; (with_reducible refine (MEn.out V9 dn cn N9.out).mono ?_); rintro e V10 ⟨rfl, b⟩; have L10 := hiddenN (L9.out.trans (b.mono L9.out.size)); have XS10 := hiddenN (XS9.out.below b); have XT10 := hiddenN (XT9.out.below b); have N10 := hiddenN (nst_more N9.out b); clear b)
    clear L9 XS9 XT9 N9
    have b := (Below.refl V10.heap.size V10).alloc (Nat.le_refl _) (.cells #[.int .i64 r0, .int .i64 r1, .int .i64 r2, .int .i64 r3] 31)
    have L11 := hiddenN (L10.out.trans (b.mono L10.out.size))
    have XS11 := hiddenN (XS10.out.below b)
    have XT11 := hiddenN (XT10.out.below b)
    have N11 := hiddenN (nst_more N10.out b)
    have XU11 := hiddenN (blkA_new 31 V10 #[.int .i64 r0, .int .i64 r1, .int .i64 r2, .int .i64 r3])
    obtain ⟨ub, hub⟩ : ∃ q, V10.heap.size = q := ⟨_, rfl⟩
    rw [hub] at XU11 ⊢
    clear b hub L10 XS10 XT10 N10
    generalize V10.alloc (.cells #[.int .i64 r0, .int .i64 r1, .int .i64 r2, .int .i64 r3] 31) = V11 at *
    by_cases hEz : E = 0
    · by_cases hFz : F = 0
      · subst hEz hFz
        have hGb := chk_both HE.out HF.out
        rw [HG.out] at hGb
        obtain ⟨wp0, wp1, wp2, wp3⟩ := SP.out.1 rfl
        obtain ⟨wq0, wq1, wq2, wq3⟩ := SQ.out.1 rfl
        obtain ⟨ea, ta⟩ := chk_zero HE.out
        obtain ⟨eb, tb9⟩ := chk_zero HF.out
        have lva := lvs_tot (err_pos _ _ _ ea)
        have lvb := lvs_tot (err_pos _ _ _ eb)
        have dpa := err_deep _ _ _ ea
        have dpb := err_deep _ _ _ eb
        have hha := HHa.out
        have hhb := HHb.out
        have xla := exp_len a
        have xlb := exp_len b
        by_cases ht : 2048 < totZ a + totZ b
        · rw [if_pos ht] at hGb
          subst hGb
          obtain ⟨wr0, wr1, wr2, wr3⟩ := SR.out.2 (by decide)
          subst wp0 wp1 wp2 wp3 wq0 wq1 wq2 wq3 wr0 wr1 wr2 wr3
          generalize totZ a = ta9 at *
          generalize totZ b = tb8 at *
          have htI : (ta9 : Int) + (tb8 : Int) > 2048 := by omega
          have htJ : (ta9 : Int) ≤ 2048 := by omega
          have htK : (tb8 : Int) ≤ 2048 := by omega
          have s3 := XS11.out.cell (k := 3) rfl
          simp only [List.getElem_toArray, List.getElem_cons_zero, List.getElem_cons_succ] at s3
          have t3 := XT11.out.cell (k := 3) rfl
          simp only [List.getElem_toArray, List.getElem_cons_zero, List.getElem_cons_succ] at t3
          clear ht ta tb9 lva lvb dpa dpb hha hhb xla xlb ea eb HHa HHb SP SQ SR HE HF HG
          go_wp2_with (go_at_call 11; (with_reducible refine (AW.out V11).mono ?_); rintro e V12 ⟨rfl, b⟩; have L12 := hiddenN (L11.out.trans (b.mono L11.out.size)); have XU12 := XU11.out.below b; have u0 := XU12.cell (k := 0) rfl; have u1 := XU12.cell (k := 1) rfl; have u2 := XU12.cell (k := 2) rfl; have u3 := XU12.cell (k := 3) rfl; simp only [List.getElem_toArray, List.getElem_cons_zero, List.getElem_cons_succ] at u0 u1 u2 u3; clear b XU12)
          rw [← HRE.out]
          exact ⟨by first | rfl | simp, L12.out⟩
        · rw [if_neg ht] at hGb
          subst hGb
          obtain ⟨wr0, wr1, wr2, wr3⟩ := SR.out.1 rfl
          have kA : keptZ a = a := by unfold keptZ; rw [if_pos HE.out]
          have kB : keptZ b = b := by unfold keptZ; rw [if_pos HF.out]
          have kN : keptZ (a ++ b) = a ++ b := by unfold keptZ; rw [if_pos HG.out]
          rw [kA] at EXa
          rw [kB] at EXb
          rw [kN, exp_app, List.length_append] at EXn
          rw [xla] at EXa EXn
          rw [xlb] at EXb EXn
          rw [lvs_app] at wr0
          rw [hds_app] at wr1
          rw [dps_app] at wr2
          rw [tot_app] at wr3
          subst wp0 wp1 wp2 wp3 wq0 wq1 wq2 wq3
          have HEA := hiddenN xla
          have HEB := hiddenN xlb
          obtain ⟨EA, hEA⟩ : ∃ q, expZ a = q := ⟨_, rfl⟩
          obtain ⟨EB, hEB⟩ : ∃ q, expZ b = q := ⟨_, rfl⟩
          rw [hEA] at EXa EXn HEA
          rw [hEB] at EXb EXn HEB
          clear xla xlb hEA hEB ea eb HHa HHb SP SQ SR HE HF HG kA kB kN
          obtain ⟨la, hla9⟩ : ∃ q, lvsZ a = q := ⟨_, rfl⟩
          obtain ⟨lb, hlb9⟩ : ∃ q, lvsZ b = q := ⟨_, rfl⟩
          obtain ⟨ha9, hha9⟩ : ∃ q, hdsZ a = q := ⟨_, rfl⟩
          obtain ⟨hb9, hhb9⟩ : ∃ q, hdsZ b = q := ⟨_, rfl⟩
          obtain ⟨da, hda⟩ : ∃ q, dpsZ 0 a = q := ⟨_, rfl⟩
          obtain ⟨db, hdb⟩ : ∃ q, dpsZ 0 b = q := ⟨_, rfl⟩
          obtain ⟨NA, hNA⟩ : ∃ q, totZ a = q := ⟨_, rfl⟩
          obtain ⟨NB, hNB⟩ : ∃ q, totZ b = q := ⟨_, rfl⟩
          rw [hla9] at wr0 XS11 lva
          rw [hlb9] at wr0 XT11 lvb
          rw [hha9] at wr1 XS11 hha
          rw [hhb9] at wr1 XT11 hhb
          rw [hda] at wr2 XS11 dpa
          rw [hdb] at wr2 XT11 dpb
          rw [hNA] at wr3 XS11 lva ta ht EXa EXn HEA
          rw [hNB] at wr3 XT11 lvb tb9 ht EXb EXn HEB
          have wr0' : r0 = (la : Int) + (lb : Int) := wr0
          have wr1' : r1 = (ha9 : Int) + (hb9 : Int) := wr1
          have wr3' : r3 = (NA : Int) + (NB : Int) := wr3
          have i1 : (la : Int) ≤ 2048 := by omega
          have i2 : (lb : Int) ≤ 2048 := by omega
          have i3 : (ha9 : Int) ≤ 65536 := by omega
          have i4 : (hb9 : Int) ≤ 65536 := by omega
          have i5 : (da : Int) ≤ 16 := by omega
          have i6 : (db : Int) ≤ 16 := by omega
          have i7 : ¬ (NA : Int) + (NB : Int) > 2048 := by omega
          have i8 : (NA : Int) ≤ 2048 := by omega
          have i9 : (NB : Int) ≤ 2048 := by omega
          clear hla9 hlb9 hha9 hhb9 hda hdb hNA hNB wr0 wr1 wr3 lva lvb ta tb9 ht
          subst wr0' wr1' wr3'
          by_cases hd : da < db
          · have hdI : (da : Int) < (db : Int) := by omega
            have wr2' : r2 = (db : Int) := by rw [wr2]; omega
            clear wr2
            subst wr2'
            have s0 := XS11.out.cell (k := 0) rfl
            have s1 := XS11.out.cell (k := 1) rfl
            have s2 := XS11.out.cell (k := 2) rfl
            have s3 := XS11.out.cell (k := 3) rfl
            simp only [List.getElem_toArray, List.getElem_cons_zero, List.getElem_cons_succ] at s0 s1 s2 s3
            have t0 := XT11.out.cell (k := 0) rfl
            have t1 := XT11.out.cell (k := 1) rfl
            have t2 := XT11.out.cell (k := 2) rfl
            have t3 := XT11.out.cell (k := 3) rfl
            simp only [List.getElem_toArray, List.getElem_cons_zero, List.getElem_cons_succ] at t0 t1 t2 t3
            have u0 := XU11.out.cell (k := 0) rfl
            have u1 := XU11.out.cell (k := 1) rfl
            have u2 := XU11.out.cell (k := 2) rfl
            have u3 := XU11.out.cell (k := 3) rfl
            simp only [List.getElem_toArray, List.getElem_cons_zero, List.getElem_cons_succ] at u0 u1 u2 u3
            go_upto_region 14 with fail
            clear s0 s1 s2 s3 t0 t1 t2 t3 u0 u1 u2 u3
            go_upto_region 15 with (first
              | (go_at_call 17; (with_reducible refine (EXa.out V12 _ gt ct T12.out).mono ?_); rintro e V13 ⟨d1, c1, rfl, hc, b⟩; have L13 := hiddenN (L12.out.trans (b.mono L12.out.size)); have XS13 := hiddenN (XS12.out.below b); have N13 := hiddenN (nst_more N12.out b); have C13 := hiddenN hc; have HB13 := hiddenN (HB12.out.trans (b.mono HB12.out.size)); clear hc b)
              | (go_at_call 10; (with_reducible refine (LEa.out V11 L11.out).mono ?_); rintro e V12 ⟨gt, ct, rfl, hl, b⟩; rw [HLa.out]; have T12 := hiddenN hl; have L12 := hiddenN (L11.out.trans (b.mono L11.out.size)); have XS12 := hiddenN (XS11.out.below b); have N12 := hiddenN (nst_more N11.out b); have HB12 := hiddenN b; clear hl b))
            go_upto_region 16 with (first
              | (go_at_call 17; (with_reducible refine (EXb.out V14 _ gu cu U14.out).mono ?_); rintro e V15 ⟨d2, c2, rfl, hc, b⟩; have L15 := hiddenN (L14.out.trans (b.mono L14.out.size)); have XS15 := hiddenN (XS14.out.below b); have N15 := hiddenN (nst_more N14.out b); have C15 := hiddenN (C14.out.later b); have D15 := hiddenN hc; clear hc b)
              | (go_at_call 10; (with_reducible refine (LEb.out V13 L13.out).mono ?_); rintro e V14 ⟨gu, cu, rfl, hl, b⟩; rw [HLb.out]; have U14 := hiddenN hl; have L14 := hiddenN (L13.out.trans (b.mono L13.out.size)); have XS14 := hiddenN (XS13.out.below b); have N14 := hiddenN (nst_more N13.out b); have C14 := hiddenN (C13.out.later b); clear hl b))
            go_upto_region 17 with (go_at_call 17; (with_reducible refine (EXn.out V15 dn cn N15.out).mono ?_); rintro e V16 ⟨d3, c3, rfl, hc, b⟩; have L16 := hiddenN (L15.out.trans (b.mono L15.out.size)); have XS16 := hiddenN (XS15.out.below b); have C16 := hiddenN (C15.out.later b); have D16 := hiddenN (D15.out.later b); have A16 := hiddenN hc.at; clear hc b)
            clear L12 XS12 N12 L13 XS13 N13 C13 L14 XS14 N14 C14 L15 XS15 N15 C15 D15 T12 U14 HB12 HB13
            go_upto_region 19 with (at_builtin; refine wpList_appI rfl _ _ rfl V16.heap.size none 0 [] rfl (CapR.nil _ _) d1 c1 EA (by rw [HEA.out]; rfl) (capR_off C16.out) C16.out.at (by rw [HEA.out]; simp; omega) (Nat.le_refl _) NA EA (by rw [HEA.out]; simp) (List.nil_append _) ?_; intro d4 c4 V17 hd b; have W17 := hiddenN hd; have HB17 := hiddenN b; have L17 := hiddenN (L16.out.trans (b.mono L16.out.size)); have XS17 := hiddenN (XS16.out.below b); have C17 := hiddenN (C16.out.later b); have A17 := hiddenN (A16.out.below b); have D17 := hiddenN (D16.out.later b); have H17 := hiddenN b.size; clear hd b)
            go_upto_region 20 with (at_builtin; refine wpList_appI rfl _ _ rfl V16.heap.size d4 c4 EA (by rw [HEA.out]; rfl) W17.out d2 c2 EB (by rw [HEB.out]; rfl) (capR_off D17.out) D17.out.at (by rw [HEA.out, HEB.out]; omega) H17.out (NA + NB) (EA ++ EB) (by rw [HEA.out, HEB.out]) rfl ?_; intro d5 c5 V18 hd b; have W18 := hiddenN hd.at; have b2 := HB17.out.trans b; have L18 := hiddenN (L16.out.trans (b2.mono L16.out.size)); have XS18 := hiddenN (XS16.out.below b2); have A18 := hiddenN (A16.out.below b2); clear hd b b2)
            clear L16 XS16 C16 D16 A16 L17 XS17 C17 A17 D17 W17 HB17 H17
            have SI18 : Hid (∀ V, Below V18.heap.size V18 V → Calls Try.prog 19 #[.slice d3 (NA + NB) c3, .slice d5 (NA + NB) c5] V fun e w' => e = .returned (.bool true) ∧ Below V.heap.size V w') := fun V hb => by
              have := sameN V d3 d5 (EA ++ EB) c3 c5 (by rw [List.length_append, HEA.out, HEB.out]; omega) (A18.out.below hb) (W18.out.below hb)
              rwa [List.length_append, HEA.out, HEB.out] at this
            have AW18 := hiddenN (AW.out V18)
            have hb1 : ((NA : Int) == (NA : Int)) = true := by simp
            clear LEa LEb EXa EXb EXn MEa MEb MEn AW A18 W18
            go_wp2_with (first
              | (go_at_call 11; (with_reducible refine (AW18.out).mono ?_); rintro e V19 ⟨rfl, b⟩; have L19 := hiddenN (L18.out.trans (b.mono L18.out.size)); have XS19 := hiddenN (XS18.out.below b); have SI19 := hiddenN (SI18.out V19 b); clear b)
              | (go_at_call 19; (with_reducible refine (SI19.out).mono ?_); rintro e V20 ⟨rfl, b⟩; have L20 := hiddenN (L19.out.trans (b.mono L19.out.size)); have XS20 := hiddenN (XS19.out.below b); have s3 := XS20.out.cell (k := 3) rfl; simp only [List.getElem_toArray, List.getElem_cons_zero, List.getElem_cons_succ] at s3; clear b))
            rw [← HRE.out]
            exact ⟨by first | rfl | simp, L20.out⟩
          · have hdI : (db : Int) ≤ (da : Int) := by omega
            have wr2' : r2 = (da : Int) := by rw [wr2]; omega
            clear wr2
            subst wr2'
            have s0 := XS11.out.cell (k := 0) rfl
            have s1 := XS11.out.cell (k := 1) rfl
            have s2 := XS11.out.cell (k := 2) rfl
            have s3 := XS11.out.cell (k := 3) rfl
            simp only [List.getElem_toArray, List.getElem_cons_zero, List.getElem_cons_succ] at s0 s1 s2 s3
            have t0 := XT11.out.cell (k := 0) rfl
            have t1 := XT11.out.cell (k := 1) rfl
            have t2 := XT11.out.cell (k := 2) rfl
            have t3 := XT11.out.cell (k := 3) rfl
            simp only [List.getElem_toArray, List.getElem_cons_zero, List.getElem_cons_succ] at t0 t1 t2 t3
            have u0 := XU11.out.cell (k := 0) rfl
            have u1 := XU11.out.cell (k := 1) rfl
            have u2 := XU11.out.cell (k := 2) rfl
            have u3 := XU11.out.cell (k := 3) rfl
            simp only [List.getElem_toArray, List.getElem_cons_zero, List.getElem_cons_succ] at u0 u1 u2 u3
            go_upto_region 14 with fail
            clear s0 s1 s2 s3 t0 t1 t2 t3 u0 u1 u2 u3
            go_upto_region 15 with (first
              | (go_at_call 17; (with_reducible refine (EXa.out V12 _ gt ct T12.out).mono ?_); rintro e V13 ⟨d1, c1, rfl, hc, b⟩; have L13 := hiddenN (L12.out.trans (b.mono L12.out.size)); have XS13 := hiddenN (XS12.out.below b); have N13 := hiddenN (nst_more N12.out b); have C13 := hiddenN hc; have HB13 := hiddenN (HB12.out.trans (b.mono HB12.out.size)); clear hc b)
              | (go_at_call 10; (with_reducible refine (LEa.out V11 L11.out).mono ?_); rintro e V12 ⟨gt, ct, rfl, hl, b⟩; rw [HLa.out]; have T12 := hiddenN hl; have L12 := hiddenN (L11.out.trans (b.mono L11.out.size)); have XS12 := hiddenN (XS11.out.below b); have N12 := hiddenN (nst_more N11.out b); have HB12 := hiddenN b; clear hl b))
            go_upto_region 16 with (first
              | (go_at_call 17; (with_reducible refine (EXb.out V14 _ gu cu U14.out).mono ?_); rintro e V15 ⟨d2, c2, rfl, hc, b⟩; have L15 := hiddenN (L14.out.trans (b.mono L14.out.size)); have XS15 := hiddenN (XS14.out.below b); have N15 := hiddenN (nst_more N14.out b); have C15 := hiddenN (C14.out.later b); have D15 := hiddenN hc; clear hc b)
              | (go_at_call 10; (with_reducible refine (LEb.out V13 L13.out).mono ?_); rintro e V14 ⟨gu, cu, rfl, hl, b⟩; rw [HLb.out]; have U14 := hiddenN hl; have L14 := hiddenN (L13.out.trans (b.mono L13.out.size)); have XS14 := hiddenN (XS13.out.below b); have N14 := hiddenN (nst_more N13.out b); have C14 := hiddenN (C13.out.later b); clear hl b))
            go_upto_region 17 with (go_at_call 17; (with_reducible refine (EXn.out V15 dn cn N15.out).mono ?_); rintro e V16 ⟨d3, c3, rfl, hc, b⟩; have L16 := hiddenN (L15.out.trans (b.mono L15.out.size)); have XS16 := hiddenN (XS15.out.below b); have C16 := hiddenN (C15.out.later b); have D16 := hiddenN (D15.out.later b); have A16 := hiddenN hc.at; clear hc b)
            clear L12 XS12 N12 L13 XS13 N13 C13 L14 XS14 N14 C14 L15 XS15 N15 C15 D15 T12 U14 HB12 HB13
            go_upto_region 19 with (at_builtin; refine wpList_appI rfl _ _ rfl V16.heap.size none 0 [] rfl (CapR.nil _ _) d1 c1 EA (by rw [HEA.out]; rfl) (capR_off C16.out) C16.out.at (by rw [HEA.out]; simp; omega) (Nat.le_refl _) NA EA (by rw [HEA.out]; simp) (List.nil_append _) ?_; intro d4 c4 V17 hd b; have W17 := hiddenN hd; have HB17 := hiddenN b; have L17 := hiddenN (L16.out.trans (b.mono L16.out.size)); have XS17 := hiddenN (XS16.out.below b); have C17 := hiddenN (C16.out.later b); have A17 := hiddenN (A16.out.below b); have D17 := hiddenN (D16.out.later b); have H17 := hiddenN b.size; clear hd b)
            go_upto_region 20 with (at_builtin; refine wpList_appI rfl _ _ rfl V16.heap.size d4 c4 EA (by rw [HEA.out]; rfl) W17.out d2 c2 EB (by rw [HEB.out]; rfl) (capR_off D17.out) D17.out.at (by rw [HEA.out, HEB.out]; omega) H17.out (NA + NB) (EA ++ EB) (by rw [HEA.out, HEB.out]) rfl ?_; intro d5 c5 V18 hd b; have W18 := hiddenN hd.at; have b2 := HB17.out.trans b; have L18 := hiddenN (L16.out.trans (b2.mono L16.out.size)); have XS18 := hiddenN (XS16.out.below b2); have A18 := hiddenN (A16.out.below b2); clear hd b b2)
            clear L16 XS16 C16 D16 A16 L17 XS17 C17 A17 D17 W17 HB17 H17
            have SI18 : Hid (∀ V, Below V18.heap.size V18 V → Calls Try.prog 19 #[.slice d3 (NA + NB) c3, .slice d5 (NA + NB) c5] V fun e w' => e = .returned (.bool true) ∧ Below V.heap.size V w') := fun V hb => by
              have := sameN V d3 d5 (EA ++ EB) c3 c5 (by rw [List.length_append, HEA.out, HEB.out]; omega) (A18.out.below hb) (W18.out.below hb)
              rwa [List.length_append, HEA.out, HEB.out] at this
            have AW18 := hiddenN (AW.out V18)
            have hb1 : ((NA : Int) == (NA : Int)) = true := by simp
            clear LEa LEb EXa EXb EXn MEa MEb MEn AW A18 W18
            go_wp2_with (first
              | (go_at_call 11; (with_reducible refine (AW18.out).mono ?_); rintro e V19 ⟨rfl, b⟩; have L19 := hiddenN (L18.out.trans (b.mono L18.out.size)); have XS19 := hiddenN (XS18.out.below b); have SI19 := hiddenN (SI18.out V19 b); clear b)
              | (go_at_call 19; (with_reducible refine (SI19.out).mono ?_); rintro e V20 ⟨rfl, b⟩; have L20 := hiddenN (L19.out.trans (b.mono L19.out.size)); have XS20 := hiddenN (XS19.out.below b); have s3 := XS20.out.cell (k := 3) rfl; simp only [List.getElem_toArray, List.getElem_cons_zero, List.getElem_cons_succ] at s3; clear b))
            rw [← HRE.out]
            exact ⟨by first | rfl | simp, L20.out⟩
      · subst hEz
        have hGn : G ≠ 0 := fun e => by
          subst e
          exact hFz (HF.out.symm.trans (chk_join HG.out).2)
        have g1 : ((G : Int) == 0) = false := by simpa using hGn
        have f1 : ((F : Int) != 0) = true := by simpa using hFz
        go_wp2_with (go_at_call 11; (with_reducible refine (AW.out V11).mono ?_); rintro e V12 ⟨rfl, b⟩; have L12 := hiddenN (L11.out.trans (b.mono L11.out.size)); have XU12 := XU11.out.below b; have u0 := XU12.cell (k := 0) rfl; have u1 := XU12.cell (k := 1) rfl; have u2 := XU12.cell (k := 2) rfl; have u3 := XU12.cell (k := 3) rfl; simp only [List.getElem_toArray, List.getElem_cons_zero, List.getElem_cons_succ] at u0 u1 u2 u3; clear b XU12)
        rw [← HRE.out]
        exact ⟨by first | rfl | simp, L12.out⟩
    · have hGn : G ≠ 0 := fun e => by
        subst e
        exact hEz (HE.out.symm.trans (chk_join HG.out).1)
      have g1 : ((G : Int) == 0) = false := by simpa using hGn
      have f1 : ((E : Int) != 0) = true := by simpa using hEz
      by_cases hE5 : E = 5
      · subst hE5
        go_wp2_with (go_at_call 11; (with_reducible refine (AW.out V11).mono ?_); rintro e V12 ⟨rfl, b⟩; have L12 := hiddenN (L11.out.trans (b.mono L11.out.size)); have XU12 := XU11.out.below b; have u0 := XU12.cell (k := 0) rfl; have u1 := XU12.cell (k := 1) rfl; have u2 := XU12.cell (k := 2) rfl; have u3 := XU12.cell (k := 3) rfl; simp only [List.getElem_toArray, List.getElem_cons_zero, List.getElem_cons_succ] at u0 u1 u2 u3; clear b XU12)
        rw [← HRE.out]
        exact ⟨by first | rfl | simp, L12.out⟩
      · have hGE : G = E := by
          have := chk_first (b := b) (fun e => hEz (HE.out.symm.trans e)) (fun e => hE5 (HE.out.symm.trans e))
          rw [HG.out, HE.out] at this
          exact this
        have f5 : ((E : Int) != 5) = true := by
          have q : ¬ ((E : Int) = 5) := by omega
          simpa using q
        have g2 : ((G : Int) != (E : Int)) = false := by
          have q : (G : Int) = (E : Int) := by omega
          simpa using q
        clear hGE
        go_wp2_with (go_at_call 11; (with_reducible refine (AW.out V11).mono ?_); rintro e V12 ⟨rfl, b⟩; have L12 := hiddenN (L11.out.trans (b.mono L11.out.size)); have XU12 := XU11.out.below b; have u0 := XU12.cell (k := 0) rfl; have u1 := XU12.cell (k := 1) rfl; have u2 := XU12.cell (k := 2) rfl; have u3 := XU12.cell (k := 3) rfl; simp only [List.getElem_toArray, List.getElem_cons_zero, List.getElem_cons_succ] at u0 u1 u2 u3; clear b XU12)
        rw [← HRE.out]
        exact ⟨by first | rfl | simp, L12.out⟩
  · rw [← HRE.out]
    exact ⟨rfl, Below.refl _ _⟩
  · rw [← HRE.out]
    exact ⟨rfl, Below.refl _ _⟩
end Go.Proofs.Ythgmdaaiolgjlaa
