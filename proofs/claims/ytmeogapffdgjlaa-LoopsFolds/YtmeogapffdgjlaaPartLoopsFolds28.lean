/- Texts of one chain, laid one behind the other. -/
import Derived.Test.YtmeogapffdgjlaaPartLoopsFolds27
namespace Go.Proofs.Ytmeogapffdgjlaa
open Go.ChangeShapes Go.WideShapes Go.ChangeAt Go.RowKit
theorem at_new (u : World) (zs : List Int) : At (u.alloc (.cells (zs.map (Value.int .i64)).toArray 3)) (some ⟨u.heap.size, 0, none⟩) zs := by
  have x := blkA_new 3 u (zs.map (Value.int .i64)).toArray
  refine .inr ⟨_, 0, rfl, fun k hk => ?_⟩
  rw [Nat.zero_add]
  refine x.cell (k := k) ?_
  simp [nth_some hk]
theorem belowT {w u v : World} (h : Below w.heap.size w u) (k : Below u.heap.size u v) : Below w.heap.size w v := h.trans (k.mono h.size)
theorem alloc_lo (u : World) (o : Obj) : u.heap.size ≤ (u.alloc o).heap.size := by rw [World.size_alloc]; exact Nat.le_succ _
theorem alloc_below (u : World) (o : Obj) : Below u.heap.size u (u.alloc o) := (Below.refl _ _).alloc (Nat.le_refl _) o
theorem fold5 (u : World) : Calls Try.prog 17 #[.int .i64 2, .slice (some ⟨u.heap.size, 0, none⟩) 5 5] (u.alloc (.cells #[.int .i64 1, .int .i64 0, .slice none 0 0, .int .i64 1, .int .i64 1, .slice none 0 0, .int .i64 1, .int .i64 0, .slice none 0 0, .int .i64 1, .int .i64 1, .slice none 0 0, .int .i64 1, .int .i64 0, .slice none 0 0] 57)) fun e w' => ∃ d c, e = .returned (.tuple #[.slice d 2 c, .int .i64 0]) ∧ WrtZ u.heap.size w' d c [twoB, ⟨1, 0, []⟩] ∧ Below u.heap.size u w' := by
  have := foldZ_any 2 fiveL false (some ⟨u.heap.size, 0, none⟩) 5 _ (nst_lvf u [(0, 1), (1, 1), (0, 1), (1, 1), (0, 1)]) (by rw [five_siz]; decide)
  unfold FolE at this
  rw [five_v, five_e] at this
  exact this.mono fun e w' ⟨d, c, h1, h2, h3⟩ => ⟨d, c, h1, h2.mono (alloc_lo _ _), (alloc_below _ _).trans (h3.mono (alloc_lo _ _))⟩
theorem comp10 (u : World) : Calls Try.prog 22 #[.slice (some ⟨u.heap.size, 0, none⟩) 10 10] (u.alloc (.cells #[.int .i64 0, .int .i64 1, .int .i64 0, .int .i64 1, .int .i64 2, .int .i64 0, .int .i64 1, .int .i64 0, .int .i64 1, .int .i64 2] 3)) fun e w' => ∃ d c, e = .returned (.tuple #[.slice d 1 c, .int .i64 0]) ∧ WrtZ u.heap.size w' d c endL ∧ Below u.heap.size u w' := by
  have := compress_any tenI (some ⟨u.heap.size, 0, none⟩) 10 _ (at_new u tenI)
  unfold CmpE at this
  rw [ten_v, ten_e] at this
  exact this.mono fun e w' ⟨d, c, h1, h2, h3⟩ => ⟨d, c, h1, h2.mono (alloc_lo _ _), (alloc_below _ _).trans (h3.mono (alloc_lo _ _))⟩
theorem fold0 (u : World) : Calls Try.prog 17 #[.int .i64 0, .slice (some ⟨u.heap.size, 0, none⟩) 1 1] (u.alloc (.cells #[.int .i64 1, .int .i64 0, .slice none 0 0] 57)) fun e w' => ∃ d c, e = .returned (.tuple #[.slice d 0 c, .int .i64 1]) ∧ Below u.heap.size u w' := by
  have := foldZ_any 0 [⟨1, 0, []⟩] false (some ⟨u.heap.size, 0, none⟩) 1 _ (nst_lvf u [(0, 1)]) (by rw [siz_cons, siz_nil]; decide)
  unfold FolE at this
  rw [nil_v, nil_e] at this
  exact this.mono fun e w' ⟨d, c, h1, h2, h3⟩ => ⟨d, c, h1, (alloc_below _ _).trans (h3.mono (alloc_lo _ _))⟩
theorem comp32 (u : World) : Calls Try.prog 22 #[.slice (some ⟨u.heap.size, 0, none⟩) 1 1] (u.alloc (.cells #[.int .i64 32] 3)) fun e w' => ∃ d c, e = .returned (.tuple #[.slice d 0 c, .int .i64 100]) ∧ Below u.heap.size u w' := by
  have := compress_any [32] (some ⟨u.heap.size, 0, none⟩) 1 _ (at_new u [32])
  unfold CmpE at this
  rw [big_v, big_e] at this
  exact this.mono fun e w' ⟨d, c, h1, h2, h3⟩ => ⟨d, c, h1, (alloc_below _ _).trans (h3.mono (alloc_lo _ _))⟩
theorem WrtZ.same {B : Nat} {w : World} {d : Option Addr} {c n : Nat} {l : List Lp} (h : WrtZ B w d c l) (hn : l.length = n) (hs : sizZ l ≤ 1000000) (g c2 : Nat) (h2 : Nst (· < w.heap.size) false w (some ⟨g, 0, none⟩) l) : Calls Try.prog 19 #[.slice d n c, .slice (some ⟨g, 0, none⟩) n c2] w fun e w' => e = .returned (.bool true) ∧ ∃ n, w' = w.drewN n := by
  have := same_anyZ l l _ _ false false d c (some ⟨g, 0, none⟩) c2 w h.nst h2 hs hs
  rw [(sam_iff l l).2 rfl, hn] at this
  exact this
set_option maxRecDepth 100000 in
set_option maxHeartbeats 16000000 in
theorem awakeL_any (w : World) : Calls Try.prog 20 #[] w fun e w' => e = .returned (.bool true) ∧ Below w.heap.size w w' := by
  obtain ⟨RE, hRE⟩ : ∃ Q : Ending → World → Prop, (fun e w' => e = Ending.returned (.bool true) ∧ Below w.heap.size w w') = Q := ⟨_, rfl⟩
  rw [hRE]
  have HRE := hiddenN hRE
  clear hRE
  go_enter Try.func20, Try.ntmps20
  go_upto_region 2 with (first | (go_at_call 33; (with_reducible refine (leafZ_any 0 1 w).mono ?_); rintro e u1 ⟨rfl, hb0⟩; have B0 := hiddenN hb0; clear hb0) | (go_at_call 33; (with_reducible refine (leafZ_any 1 1 u1).mono ?_); rintro e u2 ⟨rfl, hb1⟩; have B1 := hiddenN hb1; clear hb1) | (go_at_call 33; (with_reducible refine (leafZ_any 0 1 u2).mono ?_); rintro e u3 ⟨rfl, hb2⟩; have B2 := hiddenN hb2; clear hb2) | (go_at_call 33; (with_reducible refine (leafZ_any 1 1 u3).mono ?_); rintro e u4 ⟨rfl, hb3⟩; have B3 := hiddenN hb3; clear hb3) | (go_at_call 33; (with_reducible refine (leafZ_any 0 1 u4).mono ?_); rintro e u5 ⟨rfl, hb4⟩; have B4 := hiddenN hb4; clear hb4) | (go_at_call 17; (with_reducible refine (fold5 u5).mono ?_); rintro e v1 ⟨d1, c1, rfl, hW1, hb⟩; have WA := hiddenN hW1; have BV := hiddenN (belowT (belowT (belowT (belowT (belowT B0.out B1.out) B2.out) B3.out) B4.out) hb); clear hW1 hb B0 B1 B2 B3 B4))
  go_upto_region 3 with (go_at_call 22; (with_reducible refine (comp10 v1).mono ?_); rintro e v2 ⟨d3, c3, rfl, hW3, hb⟩; have WB := hiddenN hW3; have WA2 := hiddenN (WA.out.later hb); have BV2 := hiddenN (BV.out.trans (hb.mono BV.out.size)); clear hW3 hb WA BV)
  go_upto_region 4 with (first | (go_at_call 33; (with_reducible refine (leafZ_any 0 1 v2).mono ?_); rintro e v3 ⟨rfl, hb⟩; have WA3 := hiddenN (WA2.out.later hb); have WB3 := hiddenN (WB.out.later hb); have BV3 := hiddenN (BV2.out.trans (hb.mono BV2.out.size)); clear hb WA2 WB BV2) | (go_at_call 17; (with_reducible refine (fold0 v3).mono ?_); rintro e v4 ⟨d5, c5, rfl, hb⟩; have WA4 := hiddenN (WA3.out.later hb); have WB4 := hiddenN (WB3.out.later hb); have BV4 := hiddenN (BV3.out.trans (hb.mono BV3.out.size)); clear hb WA3 WB3 BV3))
  go_upto_region 5 with (go_at_call 22; (with_reducible refine (comp32 v4).mono ?_); rintro e v5 ⟨d7, c7, rfl, hb⟩; have WA5 := hiddenN (WA4.out.later hb); have WB5 := hiddenN (WB4.out.later hb); have BV5 := hiddenN (BV4.out.trans (hb.mono BV4.out.size)); clear hb WA4 WB4 BV4)
  go_upto_region 6 with (first | (go_at_call 33; (with_reducible refine (leafZ_any 0 1 v5).mono ?_); rintro e v6 ⟨rfl, hb⟩; have WA6 := hiddenN (WA5.out.later hb); have WB6 := hiddenN (WB5.out.later hb); have BV6 := hiddenN (BV5.out.trans (hb.mono BV5.out.size)); clear hb WA5 WB5 BV5) | (go_at_call 33; (with_reducible refine (leafZ_any 1 1 v6).mono ?_); rintro e v7 ⟨rfl, hb⟩; have WA7 := hiddenN ((WA6.out.later hb).later (alloc_below v7 (.cells #[.int .i64 1, .int .i64 0, .slice none 0 0, .int .i64 1, .int .i64 1, .slice none 0 0] 57))); have WB7 := hiddenN ((WB6.out.later hb).later (alloc_below v7 (.cells #[.int .i64 1, .int .i64 0, .slice none 0 0, .int .i64 1, .int .i64 1, .slice none 0 0] 57))); have BV7 := hiddenN ((BV6.out.trans (hb.mono BV6.out.size)).trans ((alloc_below v7 (.cells #[.int .i64 1, .int .i64 0, .slice none 0 0, .int .i64 1, .int .i64 1, .slice none 0 0] 57)).mono (BV6.out.trans (hb.mono BV6.out.size)).size)); have TW7 := hiddenN (nst_lvf v7 [(0, 1), (1, 1)]); clear hb WA6 WB6 BV6) | (go_at_call 32; (with_reducible refine (blockZ_any 2 (some ⟨v7.heap.size, 0, none⟩) 2 2 (v7.alloc (.cells #[.int .i64 1, .int .i64 0, .slice none 0 0, .int .i64 1, .int .i64 1, .slice none 0 0] 57))).mono ?_); rintro e v8 ⟨rfl, hb⟩; have WA8 := hiddenN (WA7.out.later hb); have WB8 := hiddenN (WB7.out.later hb); have BV8 := hiddenN (BV7.out.trans (hb.mono BV7.out.size)); have TW8 := hiddenN (NstL.later TW7.out hb); clear hb WA7 WB7 BV7 TW7))
  have hy0 : Hid (v8.heap.size = v8.heap.size) := rfl
  have X9 := hiddenN (blkA_new 57 v8 #[.int .i64 2, .int .i64 0, .slice (some ⟨v7.heap.size, 0, none⟩) 2 2])
  have WA9 := hiddenN (WA8.out.later (alloc_below v8 (.cells #[.int .i64 2, .int .i64 0, .slice (some ⟨v7.heap.size, 0, none⟩) 2 2] 57)))
  have WB9 := hiddenN (WB8.out.later (alloc_below v8 (.cells #[.int .i64 2, .int .i64 0, .slice (some ⟨v7.heap.size, 0, none⟩) 2 2] 57)))
  have BV9 := hiddenN (belowT BV8.out (alloc_below v8 (.cells #[.int .i64 2, .int .i64 0, .slice (some ⟨v7.heap.size, 0, none⟩) 2 2] 57)))
  have TW9 := hiddenN (NstL.later TW8.out (alloc_below v8 (.cells #[.int .i64 2, .int .i64 0, .slice (some ⟨v7.heap.size, 0, none⟩) 2 2] 57)))
  clear hy0 WA8 WB8 BV8 TW8
  obtain ⟨xb, hxb⟩ : ∃ q, v8.heap.size = q := ⟨_, rfl⟩
  obtain ⟨g2, hg2⟩ : ∃ q, v7.heap.size = q := ⟨_, rfl⟩
  rw [hg2] at X9 WA9 WB9 BV9 TW9 ⊢
  rw [hxb] at X9 ⊢
  generalize v8.alloc (.cells #[.int .i64 2, .int .i64 0, .slice (some ⟨g2, 0, none⟩) 2 2] 57) = W5 at *
  have y0 := X9.out.cell (k := 0) rfl
  have y1 := X9.out.cell (k := 1) rfl
  have y2 := X9.out.cell (k := 2) rfl
  simp only [List.getElem_toArray, List.getElem_cons_zero, List.getElem_cons_succ] at y0 y1 y2
  have TW : Hid (∀ u, Below W5.heap.size W5 u → Nst (· < u.heap.size) false u (some ⟨g2, 0, none⟩) twoL) := fun u hu => NstL.later TW9.out hu
  have S1 : Hid (∀ u, Below W5.heap.size W5 u → ∀ g, Nst (· < u.heap.size) false u (some ⟨g, 0, none⟩) [twoB, ⟨1, 0, []⟩] → Calls Try.prog 19 #[.slice d1 2 c1, .slice (some ⟨g, 0, none⟩) 2 2] u fun e w' => e = .returned (.bool true) ∧ ∃ n, w' = u.drewN n) := fun u hu g hg => (WA9.out.later hu).same rfl (by simp [twoB, twoL, sizZ]) g 2 hg
  have S2 : Hid (∀ u, Below W5.heap.size W5 u → ∀ g, Nst (· < u.heap.size) false u (some ⟨g, 0, none⟩) endL → Calls Try.prog 19 #[.slice d3 1 c3, .slice (some ⟨g, 0, none⟩) 1 1] u fun e w' => e = .returned (.bool true) ∧ ∃ n, w' = u.drewN n) := fun u hu g hg => (WB9.out.later hu).same rfl (by simp [endL, twoB, twoL, sizZ]) g 1 hg
  clear WA9 WB9 X9 TW9 hg2 hxb
  refine wp_region_gen [] (fun d i u z => match i with
      | 0 => z = .slice d1 2 c1
      | 1 => z = .agg #[.int .i64 2, .int .i64 0, .slice (some ⟨g2, 0, none⟩) 2 2]
      | 2 => z = .agg #[.int .i64 1, .int .i64 0, .slice none 0 0]
      | 3 => (∃ g, z = .slice (some ⟨g, 0, none⟩) 2 2 ∧ Nst (· < u.heap.size) false u (some ⟨g, 0, none⟩) [twoB, ⟨1, 0, []⟩])
      | 4 => z = .bool true
      | 5 => z = .bool true
      | 6 => z = .slice d3 1 c3
      | 7 => z = .agg #[.int .i64 2, .int .i64 0, .slice (some ⟨g2, 0, none⟩) 2 2]
      | 8 => z = .agg #[.int .i64 1, .int .i64 2, .slice none 0 0]
      | 9 => (∃ g, z = .slice (some ⟨g, 0, none⟩) 2 2 ∧ Nst (· < u.heap.size) false u (some ⟨g, 0, none⟩) [twoB, ⟨1, 2, []⟩])
      | 10 => (∃ g, z = .agg #[.int .i64 2, .int .i64 0, .slice (some ⟨g, 0, none⟩) 2 2] ∧ Nst (· < u.heap.size) false u (some ⟨g, 0, none⟩) [twoB, ⟨1, 2, []⟩])
      | 11 => (∃ g, z = .slice (some ⟨g, 0, none⟩) 1 1 ∧ Nst (· < u.heap.size) false u (some ⟨g, 0, none⟩) endL)
      | 12 => z = .bool true
      | 13 => z = .bool true
      | 14 => z = .bool true
      | _ => True) (fun _ u => Below W5.heap.size W5 u) (by kernel_rfl) (by kernel_rfl) (by kernel_rfl) ?_ ?_ ?_ ?_ ?_ ?_ (by kernel_rfl)
  · intro d i w v w' h hb
    match i, h with
    | 0, h => exact h
    | 1, h => exact h
    | 2, h => exact h
    | 3, h => obtain ⟨g, h1, h2⟩ := h; exact ⟨g, h1, NstL.later h2 hb⟩
    | 4, h => exact h
    | 5, h => exact h
    | 6, h => exact h
    | 7, h => exact h
    | 8, h => exact h
    | 9, h => obtain ⟨g, h1, h2⟩ := h; exact ⟨g, h1, NstL.later h2 hb⟩
    | 10, h => obtain ⟨g, h1, h2⟩ := h; exact ⟨g, h1, NstL.later h2 hb⟩
    | 11, h => obtain ⟨g, h1, h2⟩ := h; exact ⟨g, h1, NstL.later h2 hb⟩
    | 12, h => exact h
    | 13, h => exact h
    | 14, h => exact h
    | _ + 15, _ => trivial
  · intro d u u' h hb
    exact h.trans (hb.mono h.size)
  · exact Below.refl _ _
  · intro d i o ρ w' hm ho hf hg hC hcs hfs hfr hdep
    match i, hm, ho, hf, hg, hfr, hdep with
    | 0, _, ho, hf, hg, hfr, hdep =>
      simp only [gTA, gCZ, gSI] at ho
      subst ho
      refine ⟨fun _ => ?_, fun hw => absurd (show true = false from hw) (by decide)⟩
      have ts : ρ (.tmp 1) = .slice d1 2 c1 := hfr 1 (by kernel_rfl)
      simp [go_sem, ts]
      exact ⟨Below.refl _ _, rfl⟩
    | 1, _, ho, hf, hg, hfr, hdep =>
      simp only [gTA, gCZ, gCS, gSI] at ho
      subst ho
      refine ⟨fun _ => ?_, fun hw => absurd (show true = false from hw) (by decide)⟩
      have ts : ρ (.tmp 9) = .pointer (some ⟨xb, 0, none⟩) := hfr 9 (by kernel_rfl)
      have k0 := cellN_later hC y0
      have k1 := cellN_later hC y1
      have k2 := cellN_later hC y2
      simp [go_sem, ts, k0, k1, k2]
      exact ⟨Below.refl _ _, rfl⟩
    | 2, _, ho, hf, hg, hfr, hdep =>
      simp only [gTA, gCZ, gCS, gSI] at ho
      subst ho
      refine ⟨fun _ => ?_, fun hw => absurd (show true = false from hw) (by decide)⟩
      simp [go_sem, hfs, hcs]
      exact ⟨rfl, (leafZ_any 0 1 w').mono fun e w2 ⟨he, hb2⟩ => ⟨_, he, hb2, rfl⟩⟩
    | 3, _, ho, hf, hg, hfr, hdep =>
      simp only [gTA, gCZ, gCS, gSI] at ho
      subst ho
      refine ⟨fun _ => ?_, fun hw => absurd (show true = false from hw) (by decide)⟩
      have t0 : ρ (.tmp 42) = .agg #[.int .i64 2, .int .i64 0, .slice (some ⟨g2, 0, none⟩) 2 2] := hdep 1 42 (by kernel_rfl) (by kernel_rfl)
      have t1 : ρ (.tmp 43) = .agg #[.int .i64 1, .int .i64 0, .slice none 0 0] := hdep 2 43 (by kernel_rfl) (by kernel_rfl)
      simp [go_sem, t0, t1]
      exact ⟨(Below.refl _ _).alloc (Nat.le_refl _) _, w'.heap.size, rfl, nst_pair (u := w') (t := 2) (n := 0) (t2 := 1) (n2 := 0) (l := twoL) (l2 := []) (TW.out w' hC) (.inl rfl)⟩
    | 4, _, ho, hf, hg, hfr, hdep =>
      simp only [gTA, gCZ, gCS, gSI] at ho
      subst ho
      refine ⟨fun _ => ?_, fun hw => absurd (show true = false from hw) (by decide)⟩
      have t0 : ρ (.tmp 41) = .slice d1 2 c1 := hdep 0 41 (by kernel_rfl) (by kernel_rfl)
      obtain ⟨g, t1, hn⟩ : ∃ g, ρ (.tmp 44) = .slice (some ⟨g, 0, none⟩) 2 2 ∧ Nst (· < w'.heap.size) false w' (some ⟨g, 0, none⟩) [twoB, ⟨1, 0, []⟩] := hdep 3 44 (by kernel_rfl) (by kernel_rfl)
      simp [go_sem, t0, t1, hfs]
      exact ⟨rfl, (S1.out w' hC g hn).mono fun e w2 ⟨he, n2, hb2⟩ => ⟨_, he, hb2 ▸ drewQ _ _, rfl⟩⟩
    | 5, _, ho, hf, hg, hfr, hdep =>
      simp only [gTA, gCZ, gCS, gSI] at ho
      subst ho
      refine ⟨fun _ => ?_, fun hw => absurd (show true = false from hw) (by decide)⟩
      have d0 : ρ (.tmp 45) = .bool true := hdep 4 45 (by kernel_rfl) (by kernel_rfl)
      simp [go_sem, d0]
      exact ⟨Below.refl _ _, rfl⟩
    | 6, _, ho, hf, hg, hfr, hdep =>
      simp only [gTA, gCZ, gCS, gSI] at ho
      subst ho
      have gd : ρ (.tmp 46) = .bool true := hdep 5 46 (by kernel_rfl) (by kernel_rfl)
      refine ⟨fun _ => ?_, fun hw => absurd (show (match ρ (.tmp 46) with | .bool c => c == true | _ => false) = false from hw) (by rw [gd]; decide)⟩
      clear gd
      have ts : ρ (.tmp 3) = .slice d3 1 c3 := hfr 3 (by kernel_rfl)
      simp [go_sem, ts]
      exact ⟨Below.refl _ _, rfl⟩
    | 7, _, ho, hf, hg, hfr, hdep =>
      simp only [gTA, gCZ, gCS, gSI] at ho
      subst ho
      have gd : ρ (.tmp 46) = .bool true := hdep 5 46 (by kernel_rfl) (by kernel_rfl)
      refine ⟨fun _ => ?_, fun hw => absurd (show (match ρ (.tmp 46) with | .bool c => c == true | _ => false) = false from hw) (by rw [gd]; decide)⟩
      clear gd
      have ts : ρ (.tmp 9) = .pointer (some ⟨xb, 0, none⟩) := hfr 9 (by kernel_rfl)
      have k0 := cellN_later hC y0
      have k1 := cellN_later hC y1
      have k2 := cellN_later hC y2
      simp [go_sem, ts, k0, k1, k2]
      exact ⟨Below.refl _ _, rfl⟩
    | 8, _, ho, hf, hg, hfr, hdep =>
      simp only [gTA, gCZ, gCS, gSI] at ho
      subst ho
      have gd : ρ (.tmp 46) = .bool true := hdep 5 46 (by kernel_rfl) (by kernel_rfl)
      refine ⟨fun _ => ?_, fun hw => absurd (show (match ρ (.tmp 46) with | .bool c => c == true | _ => false) = false from hw) (by rw [gd]; decide)⟩
      clear gd
      simp [go_sem, hfs, hcs]
      exact ⟨rfl, (leafZ_any 2 1 w').mono fun e w2 ⟨he, hb2⟩ => ⟨_, he, hb2, rfl⟩⟩
    | 9, _, ho, hf, hg, hfr, hdep =>
      simp only [gTA, gCZ, gCS, gSI] at ho
      subst ho
      have gd : ρ (.tmp 46) = .bool true := hdep 5 46 (by kernel_rfl) (by kernel_rfl)
      refine ⟨fun _ => ?_, fun hw => absurd (show (match ρ (.tmp 46) with | .bool c => c == true | _ => false) = false from hw) (by rw [gd]; decide)⟩
      clear gd
      have t0 : ρ (.tmp 48) = .agg #[.int .i64 2, .int .i64 0, .slice (some ⟨g2, 0, none⟩) 2 2] := hdep 7 48 (by kernel_rfl) (by kernel_rfl)
      have t1 : ρ (.tmp 49) = .agg #[.int .i64 1, .int .i64 2, .slice none 0 0] := hdep 8 49 (by kernel_rfl) (by kernel_rfl)
      simp [go_sem, t0, t1]
      exact ⟨(Below.refl _ _).alloc (Nat.le_refl _) _, w'.heap.size, rfl, nst_pair (u := w') (t := 2) (n := 0) (t2 := 1) (n2 := 2) (l := twoL) (l2 := []) (TW.out w' hC) (.inl rfl)⟩
    | 10, _, ho, hf, hg, hfr, hdep =>
      simp only [gTA, gCZ, gCS, gSI] at ho
      subst ho
      have gd : ρ (.tmp 46) = .bool true := hdep 5 46 (by kernel_rfl) (by kernel_rfl)
      refine ⟨fun _ => ?_, fun hw => absurd (show (match ρ (.tmp 46) with | .bool c => c == true | _ => false) = false from hw) (by rw [gd]; decide)⟩
      clear gd
      obtain ⟨g, t1, hn⟩ : ∃ g, ρ (.tmp 50) = .slice (some ⟨g, 0, none⟩) 2 2 ∧ Nst (· < w'.heap.size) false w' (some ⟨g, 0, none⟩) [twoB, ⟨1, 2, []⟩] := hdep 9 50 (by kernel_rfl) (by kernel_rfl)
      simp [go_sem, t1, hfs, hcs]
      exact ⟨rfl, (blockZ_any 2 (some ⟨g, 0, none⟩) 2 2 w').mono fun e w2 ⟨he, hb2⟩ => ⟨_, he, hb2, g, rfl, NstL.later hn hb2⟩⟩
    | 11, _, ho, hf, hg, hfr, hdep =>
      simp only [gTA, gCZ, gCS, gSI] at ho
      subst ho
      have gd : ρ (.tmp 46) = .bool true := hdep 5 46 (by kernel_rfl) (by kernel_rfl)
      refine ⟨fun _ => ?_, fun hw => absurd (show (match ρ (.tmp 46) with | .bool c => c == true | _ => false) = false from hw) (by rw [gd]; decide)⟩
      clear gd
      obtain ⟨g, t1, hn⟩ : ∃ g, ρ (.tmp 51) = .agg #[.int .i64 2, .int .i64 0, .slice (some ⟨g, 0, none⟩) 2 2] ∧ Nst (· < w'.heap.size) false w' (some ⟨g, 0, none⟩) [twoB, ⟨1, 2, []⟩] := hdep 10 51 (by kernel_rfl) (by kernel_rfl)
      simp [go_sem, t1]
      exact ⟨(Below.refl _ _).alloc (Nat.le_refl _) _, w'.heap.size, rfl, nst_solo (u := w') (t := 2) (n := 0) (l := [twoB, ⟨1, 2, []⟩]) hn⟩
    | 12, _, ho, hf, hg, hfr, hdep =>
      simp only [gTA, gCZ, gCS, gSI] at ho
      subst ho
      have gd : ρ (.tmp 46) = .bool true := hdep 5 46 (by kernel_rfl) (by kernel_rfl)
      refine ⟨fun _ => ?_, fun hw => absurd (show (match ρ (.tmp 46) with | .bool c => c == true | _ => false) = false from hw) (by rw [gd]; decide)⟩
      clear gd
      have t0 : ρ (.tmp 47) = .slice d3 1 c3 := hdep 6 47 (by kernel_rfl) (by kernel_rfl)
      obtain ⟨g, t1, hn⟩ : ∃ g, ρ (.tmp 52) = .slice (some ⟨g, 0, none⟩) 1 1 ∧ Nst (· < w'.heap.size) false w' (some ⟨g, 0, none⟩) endL := hdep 11 52 (by kernel_rfl) (by kernel_rfl)
      simp [go_sem, t0, t1, hfs]
      exact ⟨rfl, (S2.out w' hC g hn).mono fun e w2 ⟨he, n2, hb2⟩ => ⟨_, he, hb2 ▸ drewQ _ _, rfl⟩⟩
    | 13, _, ho, hf, hg, hfr, hdep =>
      simp only [gTA, gCZ, gCS, gSI] at ho
      subst ho
      refine ⟨fun _ => ?_, fun hw => absurd (show true = false from hw) (by decide)⟩
      have t0 : ρ (.tmp 46) = .bool true := hdep 5 46 (by kernel_rfl) (by kernel_rfl)
      have t1 : ρ (.tmp 53) = .bool true := hdep 12 53 (by kernel_rfl) (by kernel_rfl)
      simp [go_sem, t0, t1]
      exact ⟨Below.refl _ _, rfl⟩
    | 14, _, ho, hf, hg, hfr, hdep =>
      simp only [gTA, gCZ, gCS, gSI] at ho
      subst ho
      refine ⟨fun _ => ?_, fun hw => absurd (show true = false from hw) (by decide)⟩
      have d0 : ρ (.tmp 54) = .bool true := hdep 13 54 (by kernel_rfl) (by kernel_rfl)
      simp [go_sem, d0]
      exact ⟨Below.refl _ _, rfl⟩
    | n + 15, _, ho, _, _, _, _ => simp at ho
  · intro d i o ρ w' hm ho h0 hf hg hC hcs hfs hfr hdep
    exact absurd hm (by simp)
  · intro V w9 hC9 hS
    have e14 : V 14 = .bool true := hS 14 (by decide) (by intro h; cases h)
    simp only [puts, e14]
    simp only [Act.put, List.setIfInBounds_toArray, List.set_cons_zero, List.set_cons_succ]
    clear hS e14
    have B9 := hiddenN (belowT BV9.out hC9)
    clear hC9 y0 y1 y2
    go_wp2
    rw [← HRE.out]
    exact ⟨rfl, B9.out⟩
end Go.Proofs.Ytmeogapffdgjlaa
