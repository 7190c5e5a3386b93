/- Two texts with a line's end between them, both read (LexJoins). -/
import Derived.Test.YtendmdokgpgngaaDoorLJoinB
namespace Go.Proofs.YtendmdokgpgngaaDoor
open Go.ChangeShapes Go.WideShapes Go.ChangeAt Go.RowKit

theorem Toks.room {base w g n cap ts} (h : Toks base w (.slice (some ⟨g, 0, none⟩) n cap) ts) : n ≤ cap ∧ cap ≤ maxLen ∧ n = ts.length ∧ g < w.heap.size := by
  rcases h.2 with ⟨h1, -⟩ | ⟨g', cap', cur, hv, hg, hh, hc, hm, -⟩
  · cases h1
  · cases hv
    exact ⟨hc, hm, rfl, (Array.getElem?_eq_some_iff.1 hh).1⟩
theorem toks_atS {base w g n cap ts} (h : Toks base w (.slice (some ⟨g, 0, none⟩) n cap) ts) : AtT w (some ⟨g, 0, none⟩) ts := by
  obtain ⟨a, cap', he', hat⟩ := h.at
  cases he'
  exact hat
theorem Toks.lowsA {base w v ts} (h : Toks base w v ts) : ∀ k, v.ownBlock = some k → base ≤ k := h.lows
theorem toks_there {base w v ts} (h : Toks base w v ts) (hn : ts ≠ []) : ∃ g cap, v = .slice (some ⟨g, 0, none⟩) ts.length cap ∧ AtT w (some ⟨g, 0, none⟩) ts := by
  obtain ⟨g, cap, he, -⟩ := h.open hn
  obtain ⟨a, cap', he', hat⟩ := h.at
  rw [he] at he'
  cases he'
  exact ⟨g, cap, he, hat⟩
/-- What All makes of a text that is read. -/
def ReadEnd (W : World) (ts : List Tok) (n : Nat) (e : Ending) (w' : World) : Prop :=
  ∃ g cap, e = .returned (.tuple #[.slice (some ⟨g, 0, none⟩) n cap, .agg #[.int .i64 0, .int .i64 0]]) ∧ Toks W.heap.size w' (.slice (some ⟨g, 0, none⟩) n cap) ts ∧ Below W.heap.size W w'
theorem all_read (l : List UInt8) (ts : List Tok) (n : Nat) (ht : textG l = ⟨ts, 0, 0⟩) (hn : ts.length = n) (h0 : ts ≠ []) (W : World) (hW : Env W) : Calls Tryd.prog 9 #[.string (str l)] W (ReadEnd W ts n) :=
  (all_any l W hW).mono fun _ w' ⟨v, he, hk, hb⟩ => by
    rw [ht] at he hk
    obtain ⟨g, cap, rfl, -⟩ := hk.open h0
    subst hn
    exact ⟨g, cap, he, hk, hb⟩

set_option maxRecDepth 100000 in
set_option maxHeartbeats 4000000 in
theorem joins_both (x y : List UInt8) (w : World) (hE : Env w) (h : x.length + y.length ≤ 1048575) (ts us : List Tok) (hx : allL 0 x = ⟨ts ++ [⟨0, [], 0, ((0 + x.length : Nat) : Int)⟩], 0, 0⟩) (hj : allL 0 (x ++ 10 :: y) = (allL (0 + x.length + 1) y).app ts) (hy : allL 0 y = ⟨us, 0, 0⟩) :
    Calls Tryd.prog 8 #[.string (str x), .string (str y)] w (JoinsEnd w) := by
  have e1 := str_size x
  have e2 := str_size y
  have i1 : ¬ ((1048575 : Int) < (x.length : Int) + (y.length : Int)) := by omega
  have i1' : decide ((1048575 : Int) < (x.length : Int) + (y.length : Int)) = false := decide_eq_false i1
  have i2 : (x.length : Int) ≤ 1048575 := by omega
  have i3 : (y.length : Int) ≤ 1048575 := by omega
  have g1 : ¬ (9223372036854775807 < x.length + 1) := by omega
  have g2 : ¬ (9223372036854775807 < x.length + 1 + y.length) := by omega
  have hus := all_some y.length 0 y (Nat.le_refl _) (by rw [hy])
  have hxs := all_some x.length 0 x (Nat.le_refl _) (by rw [hx])
  have hpl := all_places y.length 0 y (Nat.le_refl _)
  rw [hy] at hus hpl
  rw [hx] at hxs
  simp only [List.length_append, List.length_cons, List.length_nil] at hxs
  simp only at hus hpl
  have hm := all_move (x.length + 1) y.length 0 y (Nat.le_refl _)
  rw [hy] at hm
  have ej : 0 + x.length + 1 = 0 + (x.length + 1) := by omega
  rw [ej, hm] at hj
  have hj2 : allL 0 (x ++ 10 :: y) = ⟨ts ++ us.map (Tok.by (x.length + 1)), 0, 0⟩ := by rw [hj]; rfl
  have hC := cat_any x y
  have lt : ts.length ≤ 1048576 := by omega
  have lu : us.length ≤ 1048577 := by omega
  have A1 := hidden (all_read x _ (ts.length + 1) (by rw [text_short (by omega), hx]) (by simp) (by simp))
  have A2 := hidden (all_read y _ us.length (by rw [text_short (by omega), hy]) rfl hus.2)
  have A3 := hidden (all_read (x ++ 10 :: y) _ (ts.length + us.length) (by rw [text_short (by simp; omega), hj2]) (by simp) (by intro e; exact hus.2 (by have := (List.append_eq_nil_iff.1 e).2; simpa using this)))
  have HM : Hid (∀ W a cap, AtT W a us → Calls Tryd.prog 19 #[.slice a us.length cap, .int .i64 (((x.length + 1 : Nat)) : Int)] W fun e w' => ∃ g c, e = .returned (.slice (some ⟨g, 0, none⟩) us.length c) ∧ Toks W.heap.size w' (.slice (some ⟨g, 0, none⟩) us.length c) (us.map (Tok.by (x.length + 1))) ∧ Below W.heap.size W w') := fun W a cap ha =>
    (moved_any a us.length cap (x.length + 1) us W rfl ha (by omega) (by omega) (fun k hk => by have := hpl _ (nth_mem hk); omega)).mono fun _ w' ⟨v, he, hk, hb⟩ => by
      obtain ⟨g, c, rfl, -⟩ := hk.open (by simpa using hus.2)
      rw [List.length_map] at he hk
      exact ⟨g, c, he, hk, hb⟩
  have HS : Hid (∀ W a b ca cb, AtT W a (ts ++ us.map (Tok.by (x.length + 1))) → AtT W b (ts ++ us.map (Tok.by (x.length + 1))) → Calls Tryd.prog 11 #[.slice a (ts.length + us.length) ca, .slice b (ts.length + us.length) cb] W fun e w' => e = .returned (.bool true) ∧ ∃ m, w' = W.drewN m) := fun W a b ca cb ha hb =>
    same_any a b _ ca cb _ W (by simp) ha hb (by omega)
  have HNU : Hid (us ≠ []) := hus.2
  have HNV : Hid (us.map (Tok.by (x.length + 1)) ≠ []) := by intro e; exact hus.2 (by simpa using e)
  have HLM : Hid ((us.map (Tok.by (x.length + 1))).length = us.length) := List.length_map _
  clear hj hj2 hm hx ej hy hxs hpl hus
  obtain ⟨d, hd⟩ : ∃ d : Nat, x.length + 1 = d := ⟨_, rfl⟩
  rw [hd] at HM HS A3 HLM HNV
  have hd2 : (x.length : Int) + 1 = (d : Int) := by omega
  clear hd
  obtain ⟨n1, hn1⟩ : ∃ n1, ts.length + 1 = n1 := ⟨_, rfl⟩
  rw [hn1] at A1
  have hn2 : (n1 : Int) - 1 = (ts.length : Int) := by omega
  have hn3 : ¬ ((n1 : Int) = 0) := by omega
  have hn3' : decide ((n1 : Int) = 0) = false := decide_eq_false hn3
  have hn4 : (n1 : Int) ≤ 1048577 := by omega
  clear hn1
  obtain ⟨i0, hi, hz0, hz1, hz2⟩ := info_parts Tryd.infoTK
  have HI := hidden hi
  have HI0 := hidden hz0
  have HI1 := hidden hz1
  have HI2 := hidden hz2
  clear hi hz0 hz1 hz2
  generalize us.map (Tok.by d) = vs at *
  generalize str (x ++ [10]) = C1 at *
  generalize str (x ++ 10 :: y) = C at *
  obtain ⟨z0, z1, z2, z3⟩ := hC
  have HW := hidden awake_any
  have HE := hidden hE
  clear hE h
  have al : Hid (∀ {w1 : World} (o : Obj), Below w.heap.size w w1 → Below w.heap.size w (w1.alloc o)) := fun o h => h.alloc h.size o
  have ba : Hid (∀ (W : World) (o : Obj), Below W.heap.size W (W.alloc o)) := fun W o => (Below.refl _ _).alloc (Nat.le_refl _) _
  go_enter Tryd.func8, Tryd.ntmps8
  go_wp2_with (first
    | (go_at_call 11; (with_reducible refine (HS.out _ _ _ _ _ D7.out F7.out).mono ?_); rintro e w8 ⟨rfl, m8, rfl⟩)
    | (go_at_call 12; (with_reducible refine (HW.out _ ((HE.out.below (al.out _ B3.out)).below BB6.out)).mono ?_); rintro e w7 ⟨rfl, hb7⟩; have BB7 := hidden (BB6.out.trans (hb7.mono BB6.out.size)); have D7 := hidden (((K3.out.below (ba.out _ _)).below BB7.out)); have F7 := hidden (V6.out.below hb7); have H7 := (two_new w3 _ _ _).later BB7.out; have s0 := H7.c0; have s1 := H7.c1; clear hb7 H7)
    | (at_builtin; refine wpList_append_own _ rfl _ _ 22 rfl (w3.heap.size + 1) 33 i0 (.agg #[.int .u8 0, .string ⟨#[]⟩, .int .i64 0, .int .i64 0]) 4 40 Tryd.underlying22 HI.out HI0.out HI1.out HI2.out rfl (by decide) _ ts.length (ts.flatMap tokC) rfl V5.out ⟨g5, 0, none⟩ us.length c5 (vs.flatMap tokC) rfl (by rw [tokC_len, HLM.out]) (flat_news M5.out) (flat_one _) (by unfold maxLen; omega) (by omega) (by have h1 := BB5.out.size; simp at h1; omega) ?_; intro v6 w6 hown hgrow _; have T6 : Hid (Toks (w3.heap.size + 1) w6 v6 (ts ++ vs)) := Toks.join (by rw [HLM.out]; exact hown); have BB6 := hidden (below_grownO BB5.out hgrow (fun k e => by have h2 := V5.out.lows k e; simp; omega) (by have h1 := BB5.out.size; simp at h1 ⊢; omega)); obtain ⟨g6, c6, e6, hat6⟩ := toks_there T6.out (by intro e; exact HNV.out (List.append_eq_nil_iff.1 e).2); have V6 := hidden hat6; rw [List.length_append, HLM.out] at e6; subst e6; clear hown hgrow hat6)
    | (go_at_call 19; (with_reducible refine (HM.out _ _ _ ((K2.out.below (ba.out _ _)).below BB4.out)).mono ?_); rintro e w5 ⟨g5, c5, rfl, hm5, hb5⟩; have M5 := hidden hm5; have BB5 := hidden (BB4.out.trans (hb5.mono BB4.out.size)); have V5 := hidden (V4.out.below hb5); clear hm5 hb5)
    | (at_builtin; refine wpList_append_own _ rfl _ _ 22 rfl (w3.heap.size + 1) 33 i0 (.agg #[.int .u8 0, .string ⟨#[]⟩, .int .i64 0, .int .i64 0]) 4 40 Tryd.underlying22 HI.out HI0.out HI1.out HI2.out rfl (by decide) _ 0 [] rfl (World.ownsRow_nil _ _ _ _) ⟨g1, 0, none⟩ ts.length p1 (ts.flatMap tokC) rfl (tokC_len ts) (fun j u hj => flat_news (L3.out.below (ba.out _ _)) j u (flat_prefix hj)) (flat_one _) (by unfold maxLen; omega) (by omega) (by simp) ?_; intro v4 w4 hown hgrow _; have V4 : Hid (Toks (w3.heap.size + 1) w4 v4 ts) := (by show Toks _ _ _ _; unfold Toks; simpa using hown); have BB4 := hidden (below_grownO (Below.refl _ _) hgrow (fun k e => by cases e) (Nat.le_refl _)); clear hown hgrow)
    | (go_at_call 9; (with_reducible refine (A3.out _ (HE.out.below (al.out _ B2.out))).mono ?_); rintro e w3 ⟨g3, p3, rfl, ht3, hb3⟩; have B3 := hidden ((al.out _ B2.out).trans (hb3.mono (al.out _ B2.out).size)); have T3 := hidden ((T2.out.alloc _).later hb3); have S3 := hidden ((two_new _ _ _ _).later hb3); have m0 := fun o => (T3.out.alloc o).c0; have m1 := fun o => (T3.out.alloc o).c1; have n0 := fun o => (S3.out.alloc o).c0; have n1 := fun o => (S3.out.alloc o).c1; have K3 := hidden (toks_atS ht3); have K2 := hidden ((K1.out.below (ba.out _ _)).below hb3); have L3 := hidden ((L2.out.below (ba.out _ _)).below hb3); clear hb3 ht3)
    | (go_at_call 9; (with_reducible refine (A2.out _ (HE.out.below (al.out _ B1.out))).mono ?_); rintro e w2 ⟨g2, p2, rfl, ht2, hb2⟩; have B2 := hidden ((al.out _ B1.out).trans (hb2.mono (al.out _ B1.out).size)); have T2 := hidden ((two_new _ _ _ _).later hb2); have K1 := hidden (toks_atS ht2); have L2 := hidden ((L1.out.below (ba.out _ _)).below hb2); clear hb2 ht2)
    | (go_at_call 9; (with_reducible refine (A1.out _ HE.out).mono ?_); rintro e w1 ⟨g1, p1, rfl, ht1, hb1⟩; have B1 := hidden hb1; have L1 := hidden ht1; have r1 : (n1 : Int) ≤ (p1 : Int) := (by have := ht1.room.1; omega); have r2 : (ts.length : Int) ≤ (p1 : Int) := (by omega); clear hb1 ht1))
  go_ret
  refine ⟨rfl, ?_⟩
  have f1 := (al.out (.cells #[.int .i64 0, .int .i64 0] 25) B3.out)
  exact bdrew (f1.trans (BB7.out.mono f1.size)) _
theorem lexJoins_walk (x y : List UInt8) (w : World) (hx : x.length ≤ 140737488351232) (hy : y.length ≤ 140737488351232) (hE : Env w) :
    Calls Tryd.prog 8 #[.string (str x), .string (str y)] w fun e w' => e = .returned (.bool true) ∧ Below w.heap.size w w' := by
  rcases Nat.lt_or_ge 1048575 (x.length + y.length) with h | h
  · exact joins_long x y w hx hy h
  · rcases all_join y x.length 0 x (Nat.le_refl _) with ⟨h1, h2⟩ | ⟨ts, h1, h2⟩
    · exact joins_first x y w hE h h1 h2
    · by_cases he : (allL 0 y).err = 0
      · have hp := allL_zero he
        refine joins_both x y w hE h ts (allL 0 y).toks h1 h2 ?_
        generalize allL 0 y = g at *
        obtain ⟨a, b, c⟩ := g
        simp only at he hp
        subst he
        subst hp
        rfl
      · exact joins_second x y w hE h ts h1 h2 he
end Go.Proofs.YtendmdokgpgngaaDoor
