/- Texts of one chain, laid one behind the other. -/
import Derived.Test.YtmeogapffdgjlabPartLoopsNames26
import Derived.Test.YtmeogapffdgjlabPartLoopsNames25
import Derived.Test.YtmeogapffdgjlabPartLoopsNames3
namespace Go.Proofs.Ytmeogapffdgjlab
open Go.ChangeShapes Go.WideShapes Go.ChangeAt Go.RowKit
theorem NstL.later {w w' : World} {m : Bool} {a : Option Addr} {l : List Lp} (h : Nst (· < w.heap.size) m w a l) (hb : Below w.heap.size w w') : Nst (· < w'.heap.size) m w' a l := (h.below hb).mono fun _ hk => Nat.lt_of_lt_of_le hk hb.size
theorem nst_pair {u : World} {t n t2 n2 : Int} {a a2 : Option Addr} {c c2 : Nat} {l l2 : List Lp} (h : Nst (· < u.heap.size) false u a l) (h2 : Nst (· < u.heap.size) false u a2 l2) : Nst (· < (u.alloc (.cells #[.int .i64 t, .int .i64 n, .slice a l.length c, .int .i64 t2, .int .i64 n2, .slice a2 l2.length c2] 29)).heap.size) false (u.alloc (.cells #[.int .i64 t, .int .i64 n, .slice a l.length c, .int .i64 t2, .int .i64 n2, .slice a2 l2.length c2] 29)) (some ⟨u.heap.size, 0, none⟩) [⟨t, n, l⟩, ⟨t2, n2, l2⟩] := by
  have x := blkA_new 29 u #[.int .i64 t, .int .i64 n, .slice a l.length c, .int .i64 t2, .int .i64 n2, .slice a2 l2.length c2]
  have b := (Below.refl u.heap.size u).alloc (Nat.le_refl _) (.cells #[.int .i64 t, .int .i64 n, .slice a l.length c, .int .i64 t2, .int .i64 n2, .slice a2 l2.length c2] 29)
  have hs := NstL.later h b
  have hs2 := NstL.later h2 b
  generalize u.alloc (.cells #[.int .i64 t, .int .i64 n, .slice a l.length c, .int .i64 t2, .int .i64 n2, .slice a2 l2.length c2] 29) = W at *
  refine .inr ⟨_, 0, rfl, nst_cons.2 ⟨x.lt, x.cell (k := 0) rfl, x.cell (k := 1) rfl, ?_, nst_cons.2 ⟨x.lt, x.cell (k := 3) rfl, x.cell (k := 4) rfl, ?_, nst_nil.2 (fun e => by cases e)⟩⟩⟩
  · exact ⟨a, c, x.cell (k := 2) rfl, hs.imp id fun ⟨b', o', e, q⟩ => ⟨b', o', e, (fun e => by cases e), q⟩⟩
  · exact ⟨a2, c2, x.cell (k := 5) rfl, hs2.imp id fun ⟨b', o', e, q⟩ => ⟨b', o', e, (fun e => by cases e), q⟩⟩
theorem nst_solo {u : World} {t n : Int} {a : Option Addr} {c : Nat} {l : List Lp} (h : Nst (· < u.heap.size) false u a l) : Nst (· < (u.alloc (.cells #[.int .i64 t, .int .i64 n, .slice a l.length c] 29)).heap.size) false (u.alloc (.cells #[.int .i64 t, .int .i64 n, .slice a l.length c] 29)) (some ⟨u.heap.size, 0, none⟩) [⟨t, n, l⟩] := by
  have x := blkA_new 29 u #[.int .i64 t, .int .i64 n, .slice a l.length c]
  have b := (Below.refl u.heap.size u).alloc (Nat.le_refl _) (.cells #[.int .i64 t, .int .i64 n, .slice a l.length c] 29)
  have hs := NstL.later h b
  generalize u.alloc (.cells #[.int .i64 t, .int .i64 n, .slice a l.length c] 29) = W at *
  refine .inr ⟨_, 0, rfl, nst_cons.2 ⟨x.lt, x.cell (k := 0) rfl, x.cell (k := 1) rfl, ?_, nst_nil.2 (fun e => by cases e)⟩⟩
  exact ⟨a, c, x.cell (k := 2) rfl, hs.imp id fun ⟨b', o', e, q⟩ => ⟨b', o', e, (fun e => by cases e), q⟩⟩
theorem nst_lvf (u : World) (R : List (Int × Int)) : Nst (· < (u.alloc (.cells (flatZ (lvfS R)).toArray 29)).heap.size) false (u.alloc (.cells (flatZ (lvfS R)).toArray 29)) (some ⟨u.heap.size, 0, none⟩) (lvfZ R) := by
  have x := blkA_new 29 u (flatZ (lvfS R)).toArray
  generalize u.alloc (.cells (flatZ (lvfS R)).toArray 29) = W at *
  refine .inr ⟨_, 0, rfl, nst_of_row (F := (· < W.heap.size)) (S := lvfS R) x.lt (mch_lvf R) (fun k hk j hj => ?_) (fun e => by cases e)⟩
  have h := flatZ_get (L := lvfS R) hk hj
  rw [Nat.zero_add]
  refine x.cell (k := k * 3 + j) ?_
  simpa using h
set_option maxRecDepth 100000 in
set_option maxHeartbeats 4000000 in
theorem leafZ_any (n t : Int) (w : World) : Calls Try.prog 6 #[.int .i64 n, .int .i64 t] w fun e w' => e = .returned (.agg #[.int .i64 t, .int .i64 n, .slice none 0 0]) ∧ Below w.heap.size w w' := by
  obtain ⟨RE, hRE⟩ : ∃ Q : Ending → World → Prop, (fun e w' => e = Ending.returned (.agg #[.int .i64 t, .int .i64 n, .slice none 0 0]) ∧ Below w.heap.size w w') = Q := ⟨_, rfl⟩
  rw [hRE]
  have HRE := hiddenN hRE
  clear hRE
  have BB := hiddenN ((Below.refl w.heap.size w).alloc (Nat.le_refl _) (.cells #[.int .i64 t, .int .i64 n, .slice none 0 0] 29))
  go_enter Try.func6, Try.ntmps6
  go_wp2
  rw [← HRE.out]
  exact ⟨rfl, _, results_cell_row rfl _ _ w.heap.size 29 _ (0, 0) _ rfl (blkA_new 29 w _) Try.underlying29 rfl (by kernel_rfl), rfl, BB.out⟩
set_option maxRecDepth 100000 in
set_option maxHeartbeats 4000000 in
theorem blockZ_any (t : Int) (a : Option Addr) (L c : Nat) (w : World) : Calls Try.prog 8 #[.int .i64 t, .slice a L c] w fun e w' => e = .returned (.agg #[.int .i64 t, .int .i64 0, .slice a L c]) ∧ Below w.heap.size w w' := by
  obtain ⟨RE, hRE⟩ : ∃ Q : Ending → World → Prop, (fun e w' => e = Ending.returned (.agg #[.int .i64 t, .int .i64 0, .slice a L c]) ∧ Below w.heap.size w w') = Q := ⟨_, rfl⟩
  rw [hRE]
  have HRE := hiddenN hRE
  clear hRE
  have BB := hiddenN ((Below.refl w.heap.size w).alloc (Nat.le_refl _) (.cells #[.int .i64 t, .int .i64 0, .slice a L c] 29))
  go_enter Try.func8, Try.ntmps8
  go_wp2
  rw [← HRE.out]
  exact ⟨rfl, _, results_cell_row rfl _ _ w.heap.size 29 _ (0, 0) _ rfl (blkA_new 29 w _) Try.underlying29 rfl (by kernel_rfl), rfl, BB.out⟩
theorem at_new (u : World) (zs : List Int) : At (u.alloc (.cells (zs.map (Value.int .i64)).toArray 3)) (some ⟨u.heap.size, 0, none⟩) zs := by
  have x := blkA_new 3 u (zs.map (Value.int .i64)).toArray
  refine .inr ⟨_, 0, rfl, fun k hk => ?_⟩
  rw [Nat.zero_add]
  refine x.cell (k := k) ?_
  simp [nth_some hk]
theorem belowT {w u v : World} (h : Below w.heap.size w u) (k : Below u.heap.size u v) : Below w.heap.size w v := h.trans (k.mono h.size)
theorem alloc_lo (u : World) (o : Obj) : u.heap.size ≤ (u.alloc o).heap.size := by rw [World.size_alloc]; exact Nat.le_succ _
theorem alloc_below (u : World) (o : Obj) : Below u.heap.size u (u.alloc o) := (Below.refl _ _).alloc (Nat.le_refl _) o
theorem fold5 (u : World) : Calls Try.prog 5 #[.int .i64 2, .slice (some ⟨u.heap.size, 0, none⟩) 5 5] (u.alloc (.cells #[.int .i64 1, .int .i64 0, .slice none 0 0, .int .i64 1, .int .i64 1, .slice none 0 0, .int .i64 1, .int .i64 0, .slice none 0 0, .int .i64 1, .int .i64 1, .slice none 0 0, .int .i64 1, .int .i64 0, .slice none 0 0] 29)) fun e w' => ∃ d c, e = .returned (.tuple #[.slice d 2 c, .int .i64 0]) ∧ WrtZ u.heap.size w' d c [twoB, ⟨1, 0, []⟩] ∧ Below u.heap.size u w' := by
  have := foldZ_any 2 fiveL false (some ⟨u.heap.size, 0, none⟩) 5 _ (nst_lvf u [(0, 1), (1, 1), (0, 1), (1, 1), (0, 1)]) (by rw [five_siz]; decide)
  unfold FolE at this
  rw [five_v, five_e] at this
  exact this.mono fun e w' ⟨d, c, h1, h2, h3⟩ => ⟨d, c, h1, h2.mono (alloc_lo _ _), (alloc_below _ _).trans (h3.mono (alloc_lo _ _))⟩
theorem comp10 (u : World) : Calls Try.prog 4 #[.slice (some ⟨u.heap.size, 0, none⟩) 10 10] (u.alloc (.cells #[.int .i64 0, .int .i64 1, .int .i64 0, .int .i64 1, .int .i64 2, .int .i64 0, .int .i64 1, .int .i64 0, .int .i64 1, .int .i64 2] 3)) fun e w' => ∃ d c, e = .returned (.tuple #[.slice d 1 c, .int .i64 0]) ∧ WrtZ u.heap.size w' d c endL ∧ Below u.heap.size u w' := by
  have := compress_any tenI (some ⟨u.heap.size, 0, none⟩) 10 _ (at_new u tenI)
  unfold CmpE at this
  rw [ten_v, ten_e] at this
  exact this.mono fun e w' ⟨d, c, h1, h2, h3⟩ => ⟨d, c, h1, h2.mono (alloc_lo _ _), (alloc_below _ _).trans (h3.mono (alloc_lo _ _))⟩
theorem fold0 (u : World) : Calls Try.prog 5 #[.int .i64 0, .slice (some ⟨u.heap.size, 0, none⟩) 1 1] (u.alloc (.cells #[.int .i64 1, .int .i64 0, .slice none 0 0] 29)) fun e w' => ∃ d c, e = .returned (.tuple #[.slice d 0 c, .int .i64 1]) ∧ Below u.heap.size u w' := by
  have := foldZ_any 0 [⟨1, 0, []⟩] false (some ⟨u.heap.size, 0, none⟩) 1 _ (nst_lvf u [(0, 1)]) (by rw [siz_cons, siz_nil]; decide)
  unfold FolE at this
  rw [nil_v, nil_e] at this
  exact this.mono fun e w' ⟨d, c, h1, h2, h3⟩ => ⟨d, c, h1, (alloc_below _ _).trans (h3.mono (alloc_lo _ _))⟩
theorem comp32 (u : World) : Calls Try.prog 4 #[.slice (some ⟨u.heap.size, 0, none⟩) 1 1] (u.alloc (.cells #[.int .i64 32] 3)) fun e w' => ∃ d c, e = .returned (.tuple #[.slice d 0 c, .int .i64 100]) ∧ Below u.heap.size u w' := by
  have := compress_any [32] (some ⟨u.heap.size, 0, none⟩) 1 _ (at_new u [32])
  unfold CmpE at this
  rw [big_v, big_e] at this
  exact this.mono fun e w' ⟨d, c, h1, h2, h3⟩ => ⟨d, c, h1, (alloc_below _ _).trans (h3.mono (alloc_lo _ _))⟩
theorem WrtZ.same {B : Nat} {w : World} {d : Option Addr} {c n : Nat} {l : List Lp} (h : WrtZ B w d c l) (hn : l.length = n) (hs : sizZ l ≤ 1000000) (g c2 : Nat) (h2 : Nst (· < w.heap.size) false w (some ⟨g, 0, none⟩) l) : Calls Try.prog 7 #[.slice d n c, .slice (some ⟨g, 0, none⟩) n c2] w fun e w' => e = .returned (.bool true) ∧ ∃ n, w' = w.drewN n := by
  have := same_anyZ l l _ _ false false d c (some ⟨g, 0, none⟩) c2 w h.nst h2 hs hs
  rw [(sam_iff l l).2 rfl, hn] at this
  exact this
set_option maxRecDepth 100000 in
set_option maxHeartbeats 16000000 in
theorem awakeL_any (w : World) : Calls Try.prog 9 #[] w fun e w' => e = .returned (.bool true) ∧ Below w.heap.size w w' := by
  obtain ⟨RE, hRE⟩ : ∃ Q : Ending → World → Prop, (fun e w' => e = Ending.returned (.bool true) ∧ Below w.heap.size w w') = Q := ⟨_, rfl⟩
  rw [hRE]
  have HRE := hiddenN hRE
  clear hRE
  go_enter Try.func9, Try.ntmps9
  go_upto_region 2 with (first | (go_at_call 6; (with_reducible refine (leafZ_any 0 1 w).mono ?_); rintro e u1 ⟨rfl, hb0⟩; have B0 := hiddenN hb0; clear hb0) | (go_at_call 6; (with_reducible refine (leafZ_any 1 1 u1).mono ?_); rintro e u2 ⟨rfl, hb1⟩; have B1 := hiddenN hb1; clear hb1) | (go_at_call 6; (with_reducible refine (leafZ_any 0 1 u2).mono ?_); rintro e u3 ⟨rfl, hb2⟩; have B2 := hiddenN hb2; clear hb2) | (go_at_call 6; (with_reducible refine (leafZ_any 1 1 u3).mono ?_); rintro e u4 ⟨rfl, hb3⟩; have B3 := hiddenN hb3; clear hb3) | (go_at_call 6; (with_reducible refine (leafZ_any 0 1 u4).mono ?_); rintro e u5 ⟨rfl, hb4⟩; have B4 := hiddenN hb4; clear hb4) | (go_at_call 5; (with_reducible refine (fold5 u5).mono ?_); rintro e v1 ⟨d1, c1, rfl, hW1, hb⟩; have WA := hiddenN hW1; have BV := hiddenN (belowT (belowT (belowT (belowT (belowT B0.out B1.out) B2.out) B3.out) B4.out) hb); clear hW1 hb B0 B1 B2 B3 B4))
  go_upto_region 3 with (go_at_call 4; (with_reducible refine (comp10 v1).mono ?_); rintro e v2 ⟨d3, c3, rfl, hW3, hb⟩; have WB := hiddenN hW3; have WA2 := hiddenN (WA.out.later hb); have BV2 := hiddenN (BV.out.trans (hb.mono BV.out.size)); clear hW3 hb WA BV)
  go_upto_region 4 with (first | (go_at_call 6; (with_reducible refine (leafZ_any 0 1 v2).mono ?_); rintro e v3 ⟨rfl, hb⟩; have WA3 := hiddenN (WA2.out.later hb); have WB3 := hiddenN (WB.out.later hb); have BV3 := hiddenN (BV2.out.trans (hb.mono BV2.out.size)); clear hb WA2 WB BV2) | (go_at_call 5; (with_reducible refine (fold0 v3).mono ?_); rintro e v4 ⟨d5, c5, rfl, hb⟩; have WA4 := hiddenN (WA3.out.later hb); have WB4 := hiddenN (WB3.out.later hb); have BV4 := hiddenN (BV3.out.trans (hb.mono BV3.out.size)); clear hb WA3 WB3 BV3))
  go_upto_region 5 with (go_at_call 4; (with_reducible refine (comp32 v4).mono ?_); rintro e v5 ⟨d7, c7, rfl, hb⟩; have WA5 := hiddenN (WA4.out.later hb); have WB5 := hiddenN (WB4.out.later hb); have BV5 := hiddenN (BV4.out.trans (hb.mono BV4.out.size)); clear hb WA4 WB4 BV4)
  go_upto_region 6 with (first | (go_at_call 6; (with_reducible refine (leafZ_any 0 1 v5).mono ?_); rintro e v6 ⟨rfl, hb⟩; have WA6 := hiddenN (WA5.out.later hb); have WB6 := hiddenN (WB5.out.later hb); have BV6 := hiddenN (BV5.out.trans (hb.mono BV5.out.size)); clear hb WA5 WB5 BV5) | (go_at_call 6; (with_reducible refine (leafZ_any 1 1 v6).mono ?_); rintro e v7 ⟨rfl, hb⟩; have WA7 := hiddenN ((WA6.out.later hb).later (alloc_below v7 (.cells #[.int .i64 1, .int .i64 0, .slice none 0 0, .int .i64 1, .int .i64 1, .slice none 0 0] 29))); have WB7 := hiddenN ((WB6.out.later hb).later (alloc_below v7 (.cells #[.int .i64 1, .int .i64 0, .slice none 0 0, .int .i64 1, .int .i64 1, .slice none 0 0] 29))); have BV7 := hiddenN ((BV6.out.trans (hb.mono BV6.out.size)).trans ((alloc_below v7 (.cells #[.int .i64 1, .int .i64 0, .slice none 0 0, .int .i64 1, .int .i64 1, .slice none 0 0] 29)).mono (BV6.out.trans (hb.mono BV6.out.size)).size)); have TW7 := hiddenN (nst_lvf v7 [(0, 1), (1, 1)]); clear hb WA6 WB6 BV6) | (go_at_call 8; (with_reducible refine (blockZ_any 2 (some ⟨v7.heap.size, 0, none⟩) 2 2 (v7.alloc (.cells #[.int .i64 1, .int .i64 0, .slice none 0 0, .int .i64 1, .int .i64 1, .slice none 0 0] 29))).mono ?_); rintro e v8 ⟨rfl, hb⟩; have WA8 := hiddenN (WA7.out.later hb); have WB8 := hiddenN (WB7.out.later hb); have BV8 := hiddenN (BV7.out.trans (hb.mono BV7.out.size)); have TW8 := hiddenN (NstL.later TW7.out hb); clear hb WA7 WB7 BV7 TW7))
  have hy0 : Hid (v8.heap.size = v8.heap.size) := rfl
  have X9 := hiddenN (blkA_new 29 v8 #[.int .i64 2, .int .i64 0, .slice (some ⟨v7.heap.size, 0, none⟩) 2 2])
  have WA9 := hiddenN (WA8.out.later (alloc_below v8 (.cells #[.int .i64 2, .int .i64 0, .slice (some ⟨v7.heap.size, 0, none⟩) 2 2] 29)))
  have WB9 := hiddenN (WB8.out.later (alloc_below v8 (.cells #[.int .i64 2, .int .i64 0, .slice (some ⟨v7.heap.size, 0, none⟩) 2 2] 29)))
  have BV9 := hiddenN (belowT BV8.out (alloc_below v8 (.cells #[.int .i64 2, .int .i64 0, .slice (some ⟨v7.heap.size, 0, none⟩) 2 2] 29)))
  have TW9 := hiddenN (NstL.later TW8.out (alloc_below v8 (.cells #[.int .i64 2, .int .i64 0, .slice (some ⟨v7.heap.size, 0, none⟩) 2 2] 29)))
  clear hy0 WA8 WB8 BV8 TW8
  obtain ⟨xb, hxb⟩ : ∃ q, v8.heap.size = q := ⟨_, rfl⟩
  obtain ⟨g2, hg2⟩ : ∃ q, v7.heap.size = q := ⟨_, rfl⟩
  rw [hg2] at X9 WA9 WB9 BV9 TW9 ⊢
  rw [hxb] at X9 ⊢
  generalize v8.alloc (.cells #[.int .i64 2, .int .i64 0, .slice (some ⟨g2, 0, none⟩) 2 2] 29) = W5 at *
  have y0 := X9.out.cell (k := 0) rfl
  have y1 := X9.out.cell (k := 1) rfl
  have y2 := X9.out.cell (k := 2) rfl
  simp only [List.getElem_toArray, List.getElem_cons_zero, List.getElem_cons_succ] at y0 y1 y2
  have TW : Hid (∀ u, Below W5.heap.size W5 u → Nst (· < u.heap.size) false u (some ⟨g2, 0, none⟩) twoL) := fun u hu => NstL.later TW9.out hu
  have S1 : Hid (∀ u, Below W5.heap.size W5 u → ∀ g, Nst (· < u.heap.size) false u (some ⟨g, 0, none⟩) [twoB, ⟨1, 0, []⟩] → Calls Try.prog 7 #[.slice d1 2 c1, .slice (some ⟨g, 0, none⟩) 2 2] u fun e w' => e = .returned (.bool true) ∧ ∃ n, w' = u.drewN n) := fun u hu g hg => (WA9.out.later hu).same rfl (by simp [twoB, twoL, sizZ]) g 2 hg
  have S2 : Hid (∀ u, Below W5.heap.size W5 u → ∀ g, Nst (· < u.heap.size) false u (some ⟨g, 0, none⟩) endL → Calls Try.prog 7 #[.slice d3 1 c3, .slice (some ⟨g, 0, none⟩) 1 1] u fun e w' => e = .returned (.bool true) ∧ ∃ n, w' = u.drewN n) := fun u hu g hg => (WB9.out.later hu).same rfl (by simp [endL, twoB, twoL, sizZ]) g 1 hg
  clear WA9 WB9 X9 TW9 hg2 hxb
  refine wp_region_gen [] (fun d i u z => match i with
      | 0 => z = .slice d1 2 c1
      | 1 => z = .agg #[.int .i64 2, .int .i64 0, .slice (some ⟨g2, 0, none⟩) 2 2]
      | 2 => z = .agg #[.int .i64 1, .int .i64 0, .slice none 0 0]
      | 3 => (∃ g, z = .slice (some ⟨g, 0, none⟩) 2 2 ∧ Nst (· < u.heap.size) false u (some ⟨g, 0, none⟩) [twoB, ⟨1, 0, []⟩])
      | 4 => z = .bool true
      | 5 => z = .bool true
      | 6 => z = .slice d3 1 c3
      | 7 => z = .agg #[.int .i64 2, .int .i64 0, .slice (some ⟨g2, 0, none⟩) 2 2]
      | 8 => z = .agg #[.int .i64 1, .int .i64 2, .slice none 0 0]
      | 9 => (∃ g, z = .slice (some ⟨g, 0, none⟩) 2 2 ∧ Nst (· < u.heap.size) false u (some ⟨g, 0, none⟩) [twoB, ⟨1, 2, []⟩])
      | 10 => (∃ g, z = .agg #[.int .i64 2, .int .i64 0, .slice (some ⟨g, 0, none⟩) 2 2] ∧ Nst (· < u.heap.size) false u (some ⟨g, 0, none⟩) [twoB, ⟨1, 2, []⟩])
      | 11 => (∃ g, z = .slice (some ⟨g, 0, none⟩) 1 1 ∧ Nst (· < u.heap.size) false u (some ⟨g, 0, none⟩) endL)
      | 12 => z = .bool true
      | 13 => z = .bool true
      | 14 => z = .bool true
      | _ => True) (fun _ u => Below W5.heap.size W5 u) (by kernel_rfl) (by kernel_rfl) (by kernel_rfl) ?_ ?_ ?_ ?_ ?_ ?_ (by kernel_rfl)
  · intro d i w v w' h hb
    match i, h with
    | 0, h => exact h
    | 1, h => exact h
    | 2, h => exact h
    | 3, h => obtain ⟨g, h1, h2⟩ := h; exact ⟨g, h1, NstL.later h2 hb⟩
    | 4, h => exact h
    | 5, h => exact h
    | 6, h => exact h
    | 7, h => exact h
    | 8, h => exact h
    | 9, h => obtain ⟨g, h1, h2⟩ := h; exact ⟨g, h1, NstL.later h2 hb⟩
    | 10, h => obtain ⟨g, h1, h2⟩ := h; exact ⟨g, h1, NstL.later h2 hb⟩
    | 11, h => obtain ⟨g, h1, h2⟩ := h; exact ⟨g, h1, NstL.later h2 hb⟩
    | 12, h => exact h
    | 13, h => exact h
    | 14, h => exact h
    | _ + 15, _ => trivial
  · intro d u u' h hb
    exact h.trans (hb.mono h.size)
  · exact Below.refl _ _
  · intro d i o ρ w' hm ho hf hg hC hcs hfs hfr hdep
    match i, hm, ho, hf, hg, hfr, hdep with
    | 0, _, ho, hf, hg, hfr, hdep =>
      simp only [gTA, gCZ, gSI] at ho
      subst ho
      refine ⟨fun _ => ?_, fun hw => absurd (show true = false from hw) (by decide)⟩
      have ts : ρ (.tmp 1) = .slice d1 2 c1 := hfr 1 (by kernel_rfl)
      simp [go_sem, ts]
      exact ⟨Below.refl _ _, rfl⟩
    | 1, _, ho, hf, hg, hfr, hdep =>
      simp only [gTA, gCZ, gCS, gSI] at ho
      subst ho
      refine ⟨fun _ => ?_, fun hw => absurd (show true = false from hw) (by decide)⟩
      have ts : ρ (.tmp 9) = .pointer (some ⟨xb, 0, none⟩) := hfr 9 (by kernel_rfl)
      have k0 := cellN_later hC y0
      have k1 := cellN_later hC y1
      have k2 := cellN_later hC y2
      simp [go_sem, ts, k0, k1, k2]
      exact ⟨Below.refl _ _, rfl⟩
    | 2, _, ho, hf, hg, hfr, hdep =>
      simp only [gTA, gCZ, gCS, gSI] at ho
      subst ho
      refine ⟨fun _ => ?_, fun hw => absurd (show true = false from hw) (by decide)⟩
      simp [go_sem, hfs, hcs]
      exact ⟨rfl, (leafZ_any 0 1 w').mono fun e w2 ⟨he, hb2⟩ => ⟨_, he, hb2, rfl⟩⟩
    | 3, _, ho, hf, hg, hfr, hdep =>
      simp only [gTA, gCZ, gCS, gSI] at ho
      subst ho
      refine ⟨fun _ => ?_, fun hw => absurd (show true = false from hw) (by decide)⟩
      have t0 : ρ (.tmp 42) = .agg #[.int .i64 2, .int .i64 0, .slice (some ⟨g2, 0, none⟩) 2 2] := hdep 1 42 (by kernel_rfl) (by kernel_rfl)
      have t1 : ρ (.tmp 43) = .agg #[.int .i64 1, .int .i64 0, .slice none 0 0] := hdep 2 43 (by kernel_rfl) (by kernel_rfl)
      simp [go_sem, t0, t1]
      exact ⟨(Below.refl _ _).alloc (Nat.le_refl _) _, w'.heap.size, rfl, nst_pair (u := w') (t := 2) (n := 0) (t2 := 1) (n2 := 0) (l := twoL) (l2 := []) (TW.out w' hC) (.inl rfl)⟩
    | 4, _, ho, hf, hg, hfr, hdep =>
      simp only [gTA, gCZ, gCS, gSI] at ho
      subst ho
      refine ⟨fun _ => ?_, fun hw => absurd (show true = false from hw) (by decide)⟩
      have t0 : ρ (.tmp 41) = .slice d1 2 c1 := hdep 0 41 (by kernel_rfl) (by kernel_rfl)
      obtain ⟨g, t1, hn⟩ : ∃ g, ρ (.tmp 44) = .slice (some ⟨g, 0, none⟩) 2 2 ∧ Nst (· < w'.heap.size) false w' (some ⟨g, 0, none⟩) [twoB, ⟨1, 0, []⟩] := hdep 3 44 (by kernel_rfl) (by kernel_rfl)
      simp [go_sem, t0, t1, hfs]
      exact ⟨rfl, (S1.out w' hC g hn).mono fun e w2 ⟨he, n2, hb2⟩ => ⟨_, he, hb2 ▸ drewQ _ _, rfl⟩⟩
    | 5, _, ho, hf, hg, hfr, hdep =>
      simp only [gTA, gCZ, gCS, gSI] at ho
      subst ho
      refine ⟨fun _ => ?_, fun hw => absurd (show true = false from hw) (by decide)⟩
      have d0 : ρ (.tmp 45) = .bool true := hdep 4 45 (by kernel_rfl) (by kernel_rfl)
      simp [go_sem, d0]
      exact ⟨Below.refl _ _, rfl⟩
    | 6, _, ho, hf, hg, hfr, hdep =>
      simp only [gTA, gCZ, gCS, gSI] at ho
      subst ho
      have gd : ρ (.tmp 46) = .bool true := hdep 5 46 (by kernel_rfl) (by kernel_rfl)
      refine ⟨fun _ => ?_, fun hw => absurd (show (match ρ (.tmp 46) with | .bool c => c == true | _ => false) = false from hw) (by rw [gd]; decide)⟩
      clear gd
      have ts : ρ (.tmp 3) = .slice d3 1 c3 := hfr 3 (by kernel_rfl)
      simp [go_sem, ts]
      exact ⟨Below.refl _ _, rfl⟩
    | 7, _, ho, hf, hg, hfr, hdep =>
      simp only [gTA, gCZ, gCS, gSI] at ho
      subst ho
      have gd : ρ (.tmp 46) = .bool true := hdep 5 46 (by kernel_rfl) (by kernel_rfl)
      refine ⟨fun _ => ?_, fun hw => absurd (show (match ρ (.tmp 46) with | .bool c => c == true | _ => false) = false from hw) (by rw [gd]; decide)⟩
      clear gd
      have ts : ρ (.tmp 9) = .pointer (some ⟨xb, 0, none⟩) := hfr 9 (by kernel_rfl)
      have k0 := cellN_later hC y0
      have k1 := cellN_later hC y1
      have k2 := cellN_later hC y2
      simp [go_sem, ts, k0, k1, k2]
      exact ⟨Below.refl _ _, rfl⟩
    | 8, _, ho, hf, hg, hfr, hdep =>
      simp only [gTA, gCZ, gCS, gSI] at ho
      subst ho
      have gd : ρ (.tmp 46) = .bool true := hdep 5 46 (by kernel_rfl) (by kernel_rfl)
      refine ⟨fun _ => ?_, fun hw => absurd (show (match ρ (.tmp 46) with | .bool c => c == true | _ => false) = false from hw) (by rw [gd]; decide)⟩
      clear gd
      simp [go_sem, hfs, hcs]
      exact ⟨rfl, (leafZ_any 2 1 w').mono fun e w2 ⟨he, hb2⟩ => ⟨_, he, hb2, rfl⟩⟩
    | 9, _, ho, hf, hg, hfr, hdep =>
      simp only [gTA, gCZ, gCS, gSI] at ho
      subst ho
      have gd : ρ (.tmp 46) = .bool true := hdep 5 46 (by kernel_rfl) (by kernel_rfl)
      refine ⟨fun _ => ?_, fun hw => absurd (show (match ρ (.tmp 46) with | .bool c => c == true | _ => false) = false from hw) (by rw [gd]; decide)⟩
      clear gd
      have t0 : ρ (.tmp 48) = .agg #[.int .i64 2, .int .i64 0, .slice (some ⟨g2, 0, none⟩) 2 2] := hdep 7 48 (by kernel_rfl) (by kernel_rfl)
      have t1 : ρ (.tmp 49) = .agg #[.int .i64 1, .int .i64 2, .slice none 0 0] := hdep 8 49 (by kernel_rfl) (by kernel_rfl)
      simp [go_sem, t0, t1]
      exact ⟨(Below.refl _ _).alloc (Nat.le_refl _) _, w'.heap.size, rfl, nst_pair (u := w') (t := 2) (n := 0) (t2 := 1) (n2 := 2) (l := twoL) (l2 := []) (TW.out w' hC) (.inl rfl)⟩
    | 10, _, ho, hf, hg, hfr, hdep =>
      simp only [gTA, gCZ, gCS, gSI] at ho
      subst ho
      have gd : ρ (.tmp 46) = .bool true := hdep 5 46 (by kernel_rfl) (by kernel_rfl)
      refine ⟨fun _ => ?_, fun hw => absurd (show (match ρ (.tmp 46) with | .bool c => c == true | _ => false) = false from hw) (by rw [gd]; decide)⟩
      clear gd
      obtain ⟨g, t1, hn⟩ : ∃ g, ρ (.tmp 50) = .slice (some ⟨g, 0, none⟩) 2 2 ∧ Nst (· < w'.heap.size) false w' (some ⟨g, 0, none⟩) [twoB, ⟨1, 2, []⟩] := hdep 9 50 (by kernel_rfl) (by kernel_rfl)
      simp [go_sem, t1, hfs, hcs]
      exact ⟨rfl, (blockZ_any 2 (some ⟨g, 0, none⟩) 2 2 w').mono fun e w2 ⟨he, hb2⟩ => ⟨_, he, hb2, g, rfl, NstL.later hn hb2⟩⟩
    | 11, _, ho, hf, hg, hfr, hdep =>
      simp only [gTA, gCZ, gCS, gSI] at ho
      subst ho
      have gd : ρ (.tmp 46) = .bool true := hdep 5 46 (by kernel_rfl) (by kernel_rfl)
      refine ⟨fun _ => ?_, fun hw => absurd (show (match ρ (.tmp 46) with | .bool c => c == true | _ => false) = false from hw) (by rw [gd]; decide)⟩
      clear gd
      obtain ⟨g, t1, hn⟩ : ∃ g, ρ (.tmp 51) = .agg #[.int .i64 2, .int .i64 0, .slice (some ⟨g, 0, none⟩) 2 2] ∧ Nst (· < w'.heap.size) false w' (some ⟨g, 0, none⟩) [twoB, ⟨1, 2, []⟩] := hdep 10 51 (by kernel_rfl) (by kernel_rfl)
      simp [go_sem, t1]
      exact ⟨(Below.refl _ _).alloc (Nat.le_refl _) _, w'.heap.size, rfl, nst_solo (u := w') (t := 2) (n := 0) (l := [twoB, ⟨1, 2, []⟩]) hn⟩
    | 12, _, ho, hf, hg, hfr, hdep =>
      simp only [gTA, gCZ, gCS, gSI] at ho
      subst ho
      have gd : ρ (.tmp 46) = .bool true := hdep 5 46 (by kernel_rfl) (by kernel_rfl)
      refine ⟨fun _ => ?_, fun hw => absurd (show (match ρ (.tmp 46) with | .bool c => c == true | _ => false) = false from hw) (by rw [gd]; decide)⟩
      clear gd
      have t0 : ρ (.tmp 47) = .slice d3 1 c3 := hdep 6 47 (by kernel_rfl) (by kernel_rfl)
      obtain ⟨g, t1, hn⟩ : ∃ g, ρ (.tmp 52) = .slice (some ⟨g, 0, none⟩) 1 1 ∧ Nst (· < w'.heap.size) false w' (some ⟨g, 0, none⟩) endL := hdep 11 52 (by kernel_rfl) (by kernel_rfl)
      simp [go_sem, t0, t1, hfs]
      exact ⟨rfl, (S2.out w' hC g hn).mono fun e w2 ⟨he, n2, hb2⟩ => ⟨_, he, hb2 ▸ drewQ _ _, rfl⟩⟩
    | 13, _, ho, hf, hg, hfr, hdep =>
      simp only [gTA, gCZ, gCS, gSI] at ho
      subst ho
      refine ⟨fun _ => ?_, fun hw => absurd (show true = false from hw) (by decide)⟩
      have t0 : ρ (.tmp 46) = .bool true := hdep 5 46 (by kernel_rfl) (by kernel_rfl)
      have t1 : ρ (.tmp 53) = .bool true := hdep 12 53 (by kernel_rfl) (by kernel_rfl)
      simp [go_sem, t0, t1]
      exact ⟨Below.refl _ _, rfl⟩
    | 14, _, ho, hf, hg, hfr, hdep =>
      simp only [gTA, gCZ, gCS, gSI] at ho
      subst ho
      refine ⟨fun _ => ?_, fun hw => absurd (show true = false from hw) (by decide)⟩
      have d0 : ρ (.tmp 54) = .bool true := hdep 13 54 (by kernel_rfl) (by kernel_rfl)
      simp [go_sem, d0]
      exact ⟨Below.refl _ _, rfl⟩
    | n + 15, _, ho, _, _, _, _ => simp at ho
  · intro d i o ρ w' hm ho h0 hf hg hC hcs hfs hfr hdep
    exact absurd hm (by simp)
  · intro V w9 hC9 hS
    have e14 : V 14 = .bool true := hS 14 (by decide) (by intro h; cases h)
    simp only [puts, e14]
    simp only [Act.put, List.setIfInBounds_toArray, List.set_cons_zero, List.set_cons_succ]
    clear hS e14
    have B9 := hiddenN (belowT BV9.out hC9)
    clear hC9 y0 y1 y2
    go_wp2
    rw [← HRE.out]
    exact ⟨rfl, B9.out⟩
/-- Blocks around blocks. -/
def dpN : Nat → Lp
  | 0 => ⟨1, 0, []⟩
  | k + 1 => ⟨1, 0, [dpN k]⟩
theorem dp_is : ∀ k, dpN k = ⟨1, 0, (dpN k).body⟩
  | 0 => rfl
  | _ + 1 => rfl
theorem dp_lvs : ∀ k, lvsZ [dpN k] = 1
  | 0 => by simp [dpN, lvsZ]
  | k + 1 => by
    rw [show dpN (k + 1) = ⟨1, 0, [dpN k]⟩ from rfl, lvs_cons, lvs_nil]
    show (if [dpN k].isEmpty then 1 else lvsZ [dpN k]) + 0 = 1
    rw [dp_lvs k]
    rfl
theorem dp_tot : ∀ k, totZ [dpN k] = 1
  | 0 => by simp [dpN, totZ]
  | k + 1 => by
    rw [show dpN (k + 1) = ⟨1, 0, [dpN k]⟩ from rfl, tot_cons, tot_nil]
    unfold to1
    rw [dp_tot k]
    rfl
theorem dp_siz : ∀ k, sizZ [dpN k] = k + 1
  | 0 => by simp [dpN, sizZ]
  | k + 1 => by
    rw [show dpN (k + 1) = ⟨1, 0, [dpN k]⟩ from rfl, siz_cons, siz_nil, dp_siz k]
    omega
theorem dp_err : ∀ (k d lv : Nat) (r : List Lp), lv < 2048 → d + k ≤ 16 → errZ d lv (dpN k :: r) = errZ d (lv + 1) r
  | 0, d, lv, r, h1, h2 => by
    have hf : flwZ d lv 1 0 true = 0 := by unfold flwZ; rw [if_neg (by omega), if_neg (by simp), if_neg (by decide), if_neg (by simp), if_neg (by simp)]
    rw [show dpN 0 = ⟨1, 0, []⟩ from rfl, errZ]
    simp only [List.isEmpty_nil, if_true, hf, ne_eq, not_true_eq_false, if_false]
  | k + 1, d, lv, r, h1, h2 => by
    have hf : flwZ (d + 1) lv 1 0 false = 0 := by unfold flwZ; rw [if_neg (by omega), if_neg (by omega), if_neg (by decide), if_neg (by simp), if_neg (by simp)]
    have ih := dp_err k (d + 1) lv [] h1 (by omega)
    rw [err_nil_z] at ih
    rw [show dpN (k + 1) = ⟨1, 0, [dpN k]⟩ from rfl, errZ]
    simp only [List.isEmpty_cons, Bool.false_eq_true, if_false, hf, ne_eq, not_true_eq_false, ih, dp_lvs k]
theorem dp_bad : ∀ (k d lv : Nat) (r : List Lp), lv < 2048 → d ≤ 16 → 16 < d + k → errZ d lv (dpN k :: r) = 161
  | 0, d, lv, r, h1, h2, h3 => by omega
  | k + 1, d, lv, r, h1, h2, h3 => by
    rw [show dpN (k + 1) = ⟨1, 0, [dpN k]⟩ from rfl, errZ]
    by_cases hd : d = 16
    · have hf : flwZ (d + 1) lv 1 0 false = 161 := by unfold flwZ; rw [if_neg (by omega), if_pos ⟨rfl, by omega⟩]
      simp [hf]
    · have hf : flwZ (d + 1) lv 1 0 false = 0 := by unfold flwZ; rw [if_neg (by omega), if_neg (by omega), if_neg (by decide), if_neg (by simp), if_neg (by simp)]
      have ih := dp_bad k (d + 1) lv [] h1 (by omega) (by omega)
      simp [hf, ih]
theorem two_same (D : Lp) : pasZ 1 [D, D] = [⟨2, 0, [D]⟩] := by
  have hg : grpZ 1 [D, D] = 2 := by
    unfold grpZ alkZ
    rw [List.drop_succ_cons, List.drop_zero, cntG, if_pos (eqZ_self D)]
    simp [cntG]
  rw [pas_cons (Nat.le_refl 1), hg, if_neg (by decide)]
  simp [pas_nil]
theorem dp_fold : fldE 1 [dpN 16, dpN 16] = 161 ∧ fldV 1 [dpN 16, dpN 16] = [] := by
  have e0 : errZ 0 0 [dpN 16, dpN 16] = 0 := by rw [dp_err 16 0 0 _ (by decide) (by decide), dp_err 16 0 1 _ (by decide) (by decide), err_nil_z]
  have t0 : totZ [dpN 16, dpN 16] = 2 := by
    have := tot_app [dpN 16] [dpN 16]
    rw [dp_tot] at this
    exact this
  have c0 : chkZ [dpN 16, dpN 16] = 0 := chk_is e0 (by rw [t0]; decide)
  have e1 : errZ 0 0 [⟨2, 0, [dpN 16]⟩] = 161 := by
    have hf : flwZ 1 0 2 0 false = 0 := by unfold flwZ; simp
    rw [errZ]
    simp [hf, dp_bad 16 1 0 [] (by decide) (by decide) (by decide)]
  have f1 : fldE 1 [dpN 16, dpN 16] = 161 := by
    unfold fldE
    rw [if_neg (by rw [c0]; decide), if_neg (by decide), show (1 : Int).toNat = 1 from rfl, two_same]
    unfold chkZ
    rw [e1]
    rfl
  refine ⟨f1, ?_⟩
  unfold fldV
  rw [f1, if_neg (by decide)]
theorem leaf_chk : chkZ [⟨1, 0, []⟩] = 0 := by unfold chkZ; simp [errZ, flwZ, totZ]
theorem leaf17 : fldE 17 [⟨1, 0, []⟩] = 1 ∧ fldV 17 [⟨1, 0, []⟩] = [] := by
  have f1 : fldE 17 [⟨1, 0, []⟩] = 1 := by unfold fldE; rw [if_neg (by rw [leaf_chk]; decide), if_pos (by decide)]
  refine ⟨f1, ?_⟩
  unfold fldV
  rw [f1, if_neg (by decide)]
theorem leaf16 : fldE 16 [⟨1, 0, []⟩] = 0 ∧ (fldV 16 [⟨1, 0, []⟩]).length = 1 := by
  have e : pasZ (16 : Int).toNat [⟨1, 0, []⟩] = [⟨1, 0, []⟩] := by
    rw [show (16 : Int).toNat = 16 from rfl, pas_cons (by decide), pas_nil]
    have hg : grpZ 16 [⟨1, 0, []⟩] = 1 := by unfold grpZ alkZ; simp [cntG]
    rw [hg, if_pos (by decide)]
  have f1 : fldE 16 [⟨1, 0, []⟩] = 0 := by unfold fldE; rw [if_neg (by rw [leaf_chk]; decide), if_neg (by decide), e, leaf_chk]
  refine ⟨f1, ?_⟩
  unfold fldV
  rw [f1, if_pos rfl, e]
  rfl
theorem long_cmp {zs : List Int} (h : 2048 < zs.length) : cmpE zs = 2 ∧ cmpV zs = [] := by
  have e : cmpE zs = 2 := by unfold cmpE; rw [if_pos h]
  exact ⟨e, by unfold cmpV; rw [e]; rfl⟩
theorem WrtZ.keepB {B : Nat} {w w' : World} {d : Option Addr} {c : Nat} {l : List Lp} (h : WrtZ B w d c l) (hk : ∀ k, B ≤ k → k < w.heap.size → w'.heap[k]? = w.heap[k]?) : WrtZ B w' d c l := by
  obtain ⟨S, Rs, h1, h2, h3, h4⟩ := h
  exact ⟨S, Rs, h1.keep (fun x hx => hk _ (h1.lt x hx).1 (h1.lt x hx).2), MchZ.mono (fun k q => ⟨q.1, q.2.1.keep (hk k q.1 q.2.1.lt), q.2.2⟩) (MchZ.keep (fun k q => hk k q.1 q.2.1.lt) h2), h3, h4.keep fun r hr x hx => hk _ ((h4.own r hr).lt x hx).1 ((h4.own r hr).lt x hx).2⟩
theorem nst_off {u : World} {g : Nat} {a : Option Addr} {c : Nat} {l : List Lp} (h : Nst (fun k => k ≠ g ∧ k < u.heap.size) false u a l) (hg : g < u.heap.size) : Nst (fun k => k ≠ g ∧ k < (u.alloc (.cells #[.int .i64 1, .int .i64 0, .slice a l.length c] 29)).heap.size) false (u.alloc (.cells #[.int .i64 1, .int .i64 0, .slice a l.length c] 29)) (some ⟨u.heap.size, 0, none⟩) [⟨1, 0, l⟩] := by
  have x := blkA_new 29 u #[.int .i64 1, .int .i64 0, .slice a l.length c]
  have b := (Below.refl u.heap.size u).alloc (Nat.le_refl _) (.cells #[.int .i64 1, .int .i64 0, .slice a l.length c] 29)
  have hs := (h.keep (w' := u.alloc (.cells #[.int .i64 1, .int .i64 0, .slice a l.length c] 29)) fun k hk => b.block k hk.2).mono (G := fun k => k ≠ g ∧ k < (u.alloc (.cells #[.int .i64 1, .int .i64 0, .slice a l.length c] 29)).heap.size) fun k hk => ⟨hk.1, Nat.lt_of_lt_of_le hk.2 b.size⟩
  generalize u.alloc (.cells #[.int .i64 1, .int .i64 0, .slice a l.length c] 29) = W at *
  refine .inr ⟨_, 0, rfl, nst_cons.2 ⟨⟨by omega, x.lt⟩, x.cell (k := 0) rfl, x.cell (k := 1) rfl, ?_, nst_nil.2 (fun e => by cases e)⟩⟩
  exact ⟨a, c, x.cell (k := 2) rfl, hs.imp id fun ⟨b', o', e, q⟩ => ⟨b', o', e, (fun e => by cases e), q⟩⟩
theorem sizLp : (Try.prog.info? 29).map (·.size) = some 3 := by kernel_rfl
set_option maxRecDepth 100000 in
set_option maxHeartbeats 16000000 in
theorem loopsNames_walk (w : World) : Calls Try.prog 3 #[] w fun e w' => e = .returned (.bool true) ∧ Below w.heap.size w w' := by
  obtain ⟨RE, hRE⟩ : ∃ Q : Ending → World → Prop, (fun e w' => e = .returned (.bool true) ∧ Below w.heap.size w w') = Q := ⟨_, rfl⟩
  rw [hRE]
  have HRE := hiddenN hRE
  clear hRE
  go_enter Try.func3, Try.ntmps3
  go_upto_region 3 with fail
  go_loopg [1, 2] 2048 (fun gk lv iv wr => ∃ (k c : Nat) (d : Option Addr), k ≤ 2048 ∧ gk = 2048 - k ∧ lv = .slice d k c ∧ iv = .int .i64 (k : Int) ∧ CapR w.heap.size wr d c (List.replicate k (31 : Int)) ∧ Below w.heap.size w wr)
  case atStart => exact ⟨0, 0, none, Nat.zero_le _, rfl, rfl, rfl, CapR.nil _ _, Below.refl _ _⟩
  case round =>
    obtain ⟨k, c, d, hkS, hgk, rfl, rfl, hC, hb⟩ := hrel
    have HGK := hiddenN hgk
    have HC := hiddenN hC
    have HB := hiddenN hb
    clear hgk hC hb
    by_cases hlk : k < 2048
    · have hki : (k : Int) < 2048 := by omega
      have bA := (Below.refl wr.heap.size wr).alloc (Nat.le_refl _) (.cells #[.int .i64 31] 3)
      have XA := hiddenN (blkA_new 3 wr #[.int .i64 31])
      have u0 := XA.out.cell (k := 0) rfl
      simp only [List.getElem_toArray, List.getElem_cons_zero] at u0
      have OA := hiddenN (HC.out.later bA)
      have BA := hiddenN (HB.out.trans (bA.mono HB.out.size))
      have hBA : w.heap.size ≤ (wr.alloc (.cells #[.int .i64 31] 3)).heap.size := BA.out.size
      have HE : Hid (List.replicate k (31 : Int) ++ [31] = List.replicate (k + 1) 31) := by show _ = _; rw [List.replicate_succ']
      have HNL : Hid ((List.replicate k (31 : Int)).length = k) := List.length_replicate ..
      obtain ⟨zz, hzz⟩ : ∃ q, List.replicate k (31 : Int) = q := ⟨_, rfl⟩
      rw [hzz] at OA HE HNL
      clear bA HC HB hzz
      go_wp2_with (at_builtin; refine wpList_appNq rfl _ _ rfl w.heap.size d c zz k HNL.out rfl OA.out wr.heap.size 31 rfl u0 (by omega) hBA ?_; intro d2 c2 W7 hg2; have HG := hiddenN hg2; clear hg2)
      have BW := hiddenN (BA.out.trans (HG.out.below (fun y hy => (OA.out.lt y hy).1) hBA))
      have CW1 := hiddenN HG.out.own
      rw [HE.out] at CW1
      go_roundg (2048 - (k + 1))
      case measure => have := HGK.out; omega
      case rel => exact ⟨k + 1, c2, d2, by omega, rfl, rfl, by go_num, CW1.out, BW.out⟩
    · have hkE : k = 2048 := by omega
      subst hkE
      clear hkS hlk HGK
      obtain ⟨zz, hzz⟩ : ∃ q, List.replicate 2048 (31 : Int) = q := ⟨_, rfl⟩
      have HNL : Hid (zz.length = 2048) := by show _ = _; rw [← hzz, List.length_replicate]
      have HCR := hiddenN (rep_cmp (a := 31) (s := 2048) (by decide) (by decide) (Nat.le_refl _))
      rw [hzz] at HC HCR
      have CO := hiddenN (compress_any zz d c wr HC.out.at)
      unfold CmpE at CO
      rw [HCR.out.1, HCR.out.2, HNL.out, List.length_singleton] at CO
      clear hzz
      obtain ⟨wA, hwA⟩ : ∃ q : World, q = wr := ⟨_, rfl⟩
      subst hwA
      go_upto_region 7 with (go_at_call 4; (with_reducible refine CO.out.mono ?_); rintro e V1 ⟨d1, c1, rfl, hw, b⟩; have W1 := hiddenN hw; have K1 := hiddenN b; have O1 := hiddenN (HB.out.trans (b.mono HB.out.size)); have C1 := hiddenN (HC.out.later b); clear hw b)
      have bA := (Below.refl V1.heap.size V1).alloc (Nat.le_refl _) (.cells #[.int .i64 32] 3)
      have XA := hiddenN (blkA_new 3 V1 #[.int .i64 32])
      have u0 := XA.out.cell (k := 0) rfl
      simp only [List.getElem_toArray, List.getElem_cons_zero] at u0
      have OA := hiddenN (C1.out.later bA)
      have WA := hiddenN (W1.out.later bA)
      have BA := hiddenN (O1.out.trans (bA.mono O1.out.size))
      have hBA : w.heap.size ≤ (V1.alloc (.cells #[.int .i64 32] 3)).heap.size := BA.out.size
      have HDL : Hid (∀ y, d = some y → y.block < wA.heap.size) := fun y hy => (HC.out.lt y hy).2
      have CP : Hid (∀ u x cx, At u x (zz ++ [32]) → Calls Try.prog 4 #[.slice x (2048 + 1) cx] u fun e w' => ∃ d c, e = .returned (.tuple #[.slice d 0 c, .int .i64 2]) ∧ Below u.heap.size u w') := fun u x cx hx => by
        have := compress_any (zz ++ [32]) x cx u hx
        unfold CmpE at this
        have e := long_cmp (zs := zz ++ [32]) (by rw [List.length_append, HNL.out]; decide)
        rw [e.1, e.2, List.length_append, HNL.out] at this
        exact this.mono fun e w' q => by obtain ⟨d, c, q1, q2, q3⟩ := q; exact ⟨d, c, q1, q3⟩
      clear bA C1 CO HC W1 O1
      go_upto_region 8 with (first | (go_at_call 4; (with_reducible refine (CP.out W2 d2 c2 HG.out.own.at).mono ?_); rintro e V2 ⟨d3, c3, rfl, b⟩; have Y2 := hiddenN (WB.out.later b); have O2 := hiddenN (belowT BW.out b); clear b) | (at_builtin; refine wpList_appNq rfl _ _ rfl w.heap.size d c zz 2048 HNL.out rfl OA.out V1.heap.size 32 rfl u0 (by omega) hBA ?_; intro d2 c2 W2 hg2; have HG := hiddenN hg2; have BW := hiddenN (BA.out.trans (hg2.below (fun y hy => (OA.out.lt y hy).1) hBA)); have WB := hiddenN (WA.out.keepB fun k h1 h2 => hg2.keep k h2 fun y hy e => absurd (HDL.out y hy) (by omega)); clear hg2))
      clear u0 OA WA BA HG WB BW CP XA
      go_upto_region 9 with (go_at_call 4; (with_reducible refine (comp32 V2).mono ?_); rintro e V3 ⟨d4, c4, rfl, b⟩; have Y3 := hiddenN (Y2.out.later b); have O3 := hiddenN (belowT O2.out b); clear b)
      have FO : Hid (∀ (u : World) (t : Int), Calls Try.prog 5 #[.int .i64 t, .slice (some ⟨u.heap.size, 0, none⟩) 1 1] (u.alloc (.cells #[.int .i64 1, .int .i64 0, .slice none 0 0] 29)) fun e w' => ∃ d c, e = .returned (.tuple #[.slice d (fldV t [⟨1, 0, []⟩]).length c, .int .i64 (fldE t [⟨1, 0, []⟩] : Int)]) ∧ Below u.heap.size u w') := fun u t => by
        have := foldZ_any t [⟨1, 0, []⟩] false (some ⟨u.heap.size, 0, none⟩) 1 (u.alloc (.cells #[.int .i64 1, .int .i64 0, .slice none 0 0] 29)) (nst_lvf u [(0, 1)]) (by simp [sizZ])
        exact this.mono fun e w' q => by obtain ⟨d, c, q1, q2, q3⟩ := q; exact ⟨d, c, q1, (alloc_below u (.cells #[.int .i64 1, .int .i64 0, .slice none 0 0] 29)).trans (q3.mono (alloc_lo u _))⟩
      have F17 : Hid (∀ (u : World), Calls Try.prog 5 #[.int .i64 17, .slice (some ⟨u.heap.size, 0, none⟩) 1 1] (u.alloc (.cells #[.int .i64 1, .int .i64 0, .slice none 0 0] 29)) fun e w' => ∃ d c, e = .returned (.tuple #[.slice d 0 c, .int .i64 1]) ∧ Below u.heap.size u w') := fun u => by
        have := FO.out u 17
        rw [leaf17.1, leaf17.2] at this
        exact this
      have F16 : Hid (∀ (u : World), Calls Try.prog 5 #[.int .i64 16, .slice (some ⟨u.heap.size, 0, none⟩) 1 1] (u.alloc (.cells #[.int .i64 1, .int .i64 0, .slice none 0 0] 29)) fun e w' => ∃ d c, e = .returned (.tuple #[.slice d 1 c, .int .i64 0]) ∧ Below u.heap.size u w') := fun u => by
        have := FO.out u 16
        rw [leaf16.1, leaf16.2] at this
        exact this
      clear FO Y2 O2 HB K1
      go_upto_region 10 with (first | (go_at_call 5; (with_reducible refine (F17.out V4).mono ?_); rintro e V5 ⟨d5, c5, rfl, b⟩; have Y5 := hiddenN (Y4.out.later b); have O5 := hiddenN (belowT O4.out b); clear b) | (go_at_call 6; (with_reducible refine (leafZ_any 0 1 V3).mono ?_); rintro e V4 ⟨rfl, b⟩; have Y4 := hiddenN (Y3.out.later b); have O4 := hiddenN (belowT O3.out b); clear b))
      go_upto_region 11 with (first | (go_at_call 5; (with_reducible refine (F16.out V6).mono ?_); rintro e V7 ⟨d7, c7, rfl, b⟩; have Y7 := hiddenN (Y6.out.later b); have O7 := hiddenN (belowT O6.out b); clear b) | (go_at_call 6; (with_reducible refine (leafZ_any 0 1 V5).mono ?_); rintro e V6 ⟨rfl, b⟩; have Y6 := hiddenN (Y5.out.later b); have O6 := hiddenN (belowT O5.out b); clear b))
      clear F16 F17 Y3 O3 Y4 O4 Y5 O5 Y6 O6
      go_upto_region 12 with (first | (go_at_call 7; (with_reducible refine SM.out.mono ?_); rintro e V9 ⟨rfl, n9, hn9⟩; have O9 : Hid (Below w.heap.size w V9) := (by show Below _ _ _; rw [hn9]; exact belowT O8.out (drewQ _ _)); clear hn9) | (go_at_call 6; (with_reducible refine (leafZ_any 31 2048 V7).mono ?_); rintro e V8 ⟨rfl, b⟩; have b4 := alloc_below V8 (.cells #[.int .i64 2048, .int .i64 31, .slice none 0 0] 29); have SM := hiddenN (((Y7.out.later b).later b4).same (n := 1) rfl (by simp [sizZ]) V8.heap.size 1 (nst_lvf V8 [(31, 2048)])); have O8 := hiddenN (belowT (belowT O7.out b) b4); clear b b4))
      clear SM O8 O7 Y7
      go_upto_region 14 with (go_at_call 6; (with_reducible refine (leafZ_any 0 1 V9).mono ?_); rintro e V10 ⟨rfl, b⟩; have O10 := hiddenN (belowT O9.out b); clear b)
      have b := alloc_below V10 (.cells #[.int .i64 1, .int .i64 0, .slice none 0 0] 29)
      have O11 := hiddenN (belowT O10.out b)
      have XD := hiddenN (blkA_new 29 V10 #[.int .i64 1, .int .i64 0, .slice none 0 0])
      have hgw : w.heap.size ≤ V10.heap.size := O10.out.size
      obtain ⟨gb, hgb⟩ : ∃ q, V10.heap.size = q := ⟨_, rfl⟩
      rw [hgb] at XD hgw ⊢
      clear b hgb O9 O10
      generalize V10.alloc (.cells #[.int .i64 1, .int .i64 0, .slice none 0 0] 29) = V11 at *
      go_loopg [15] 16 (fun gk iv wr => ∃ (k L c : Nat) (a : Option Addr), k ≤ 16 ∧ gk = 16 - k ∧ iv = .int .i64 (k : Int) ∧ (dpN k).body.length = L ∧ BlkA 29 gb wr #[.int .i64 1, .int .i64 0, .slice a L c] ∧ Nst (fun q => q ≠ gb ∧ q < wr.heap.size) false wr a (dpN k).body ∧ Below w.heap.size w wr)
      case atStart => exact ⟨0, 0, 0, none, Nat.zero_le _, rfl, rfl, rfl, XD.out, .inl rfl, O11.out⟩
      case round =>
        clear XD O11
        obtain ⟨k, L, c, a, hk, hgk, rfl, hL, hX, hN, hb⟩ := hrel
        have HGK := hiddenN hgk
        have HL := hiddenN hL
        have XD := hiddenN hX
        have NN := hiddenN hN
        have HB := hiddenN hb
        have hgl : gb < wr.heap.size := hX.lt
        have z0 := hX.cell (k := 0) rfl
        have z1 := hX.cell (k := 1) rfl
        have z2 := hX.cell (k := 2) rfl
        simp only [List.getElem_toArray, List.getElem_cons_zero, List.getElem_cons_succ] at z0 z1 z2
        clear hgk hL hX hN hb
        by_cases hlk : k < 16
        · have hki : (k : Int) < 16 := by omega
          have b := alloc_below wr (.cells #[.int .i64 1, .int .i64 0, .slice a L c] 29)
          have N1 := hiddenN (nst_off (c := c) NN.out hgl)
          rw [HL.out, ← dp_is k] at N1
          have O1 := hiddenN (HB.out.trans (b.mono HB.out.size))
          have X1 := hiddenN (XD.out.below b)
          clear b
          go_wp2_with (first | (go_at_call 8; (with_reducible refine (blockZ_any 1 (some ⟨wr.heap.size, 0, none⟩) 1 1 (wr.alloc (.cells #[.int .i64 1, .int .i64 0, .slice a L c] 29))).mono ?_); rintro e V2 ⟨rfl, b⟩; have X2 := hiddenN (X1.out.below b); have N2 := hiddenN ((N1.out.keep (w' := V2) fun k hk => b.block k hk.2).mono (G := fun q => q ≠ gb ∧ q < V2.heap.size) fun k hk => ⟨hk.1, Nat.lt_of_lt_of_le hk.2 b.size⟩); have O2 := hiddenN (belowT O1.out b); clear b) | (refine wpList_storeW _ rfl 29 (.tmp 14) (.tmp 78) rfl rfl gb 29 _ _ rfl rfl X2.out sizLp rfl rfl ?_; intro V3 hN hU; have X3 := hiddenN hN; have U3 := hiddenN hU; clear hN hU))
          have N3 := hiddenN ((N2.out.keep (w' := V3) fun k hk => U3.out.block k hk.2 hk.1).mono (G := fun q => q ≠ gb ∧ q < V3.heap.size) fun k hk => ⟨hk.1, Nat.lt_of_lt_of_le hk.2 U3.out.size⟩)
          have O3 := hiddenN (O2.out.trans (U3.out.below hgw O2.out.size))
          go_roundg (16 - (k + 1))
          case measure => have := HGK.out; omega
          case rel => exact ⟨k + 1, 1, 1, some ⟨wr.heap.size, 0, none⟩, by omega, rfl, by go_num, rfl, X3.out, N3.out, O3.out⟩
        · have hkE : k = 16 := by omega
          subst hkE
          obtain ⟨bd, hbd⟩ : ∃ q, (dpN 16).body = q := ⟨_, rfl⟩
          have HDF := hiddenN dp_fold
          have HDS := hiddenN (dp_siz 16)
          rw [dp_is 16, hbd] at HDF HDS
          rw [hbd] at HL NN
          have FD : Hid (Calls Try.prog 5 #[.int .i64 1, .slice (some ⟨wr.heap.size, 0, none⟩) 2 2] (wr.alloc (.cells #[.int .i64 1, .int .i64 0, .slice a L c, .int .i64 1, .int .i64 0, .slice a L c] 29)) fun e w' => ∃ d c, e = .returned (.tuple #[.slice d 0 c, .int .i64 161]) ∧ Below wr.heap.size wr w') := by
            have nn := NN.out.mono (G := (· < wr.heap.size)) fun k hk => hk.2
            have np := nst_pair (t := 1) (n := 0) (t2 := 1) (n2 := 0) (c := c) (c2 := c) nn nn
            rw [HL.out] at np
            have := foldZ_any 1 [⟨1, 0, bd⟩, ⟨1, 0, bd⟩] false (some ⟨wr.heap.size, 0, none⟩) 2 _ np (by have := siz_app [⟨1, 0, bd⟩] [⟨1, 0, bd⟩]; rw [HDS.out] at this; rw [show ([⟨1, 0, bd⟩, ⟨1, 0, bd⟩] : List Lp) = [⟨1, 0, bd⟩] ++ [⟨1, 0, bd⟩] from rfl, this]; decide)
            unfold FolE at this
            rw [HDF.out.1, HDF.out.2] at this
            exact this.mono fun e w' q => by obtain ⟨d, c, q1, q2, q3⟩ := q; exact ⟨d, c, q1, (alloc_below wr _).trans (q3.mono (alloc_lo wr _))⟩
          clear NN HDF HDS hbd XD
          go_upto_region 18 with (go_at_call 5; (with_reducible refine FD.out.mono ?_); rintro e V3 ⟨d8, c8, rfl, b⟩; have O3 := hiddenN (HB.out.trans (b.mono HB.out.size)); clear b)
          clear FD HB z0 z1 z2
          go_wp2_with (go_at_call 9; (with_reducible refine (awakeL_any V3).mono ?_); rintro e V4 ⟨rfl, b⟩; have O4 := hiddenN (belowT O3.out b); clear b)
          rw [← HRE.out]
          exact ⟨by first | rfl | simp, O4.out⟩
end Go.Proofs.Ytmeogapffdgjlab
