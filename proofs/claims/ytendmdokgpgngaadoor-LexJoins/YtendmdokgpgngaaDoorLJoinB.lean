/- Two texts with a line's end between them: an error of the second, and none (LexJoins). -/
import Derived.Test.YtendmdokgpgngaaDoorLJoin
namespace Go.Proofs.YtendmdokgpgngaaDoor
open Go.ChangeShapes Go.WideShapes Go.ChangeAt Go.RowKit

set_option maxRecDepth 100000 in
set_option maxHeartbeats 2000000 in
theorem joins_second (x y : List UInt8) (w : World) (hE : Env w) (h : x.length + y.length ≤ 1048575) (ts : List Tok) (hx : allL 0 x = ⟨ts ++ [⟨0, [], 0, ((0 + x.length : Nat) : Int)⟩], 0, 0⟩) (hj : allL 0 (x ++ 10 :: y) = (allL (0 + x.length + 1) y).app ts) (her : (allL 0 y).err ≠ 0) :
    Calls Tryd.prog 8 #[.string (str x), .string (str y)] w (JoinsEnd w) := by
  have e1 := str_size x
  have e2 := str_size y
  have i1 : ¬ ((1048575 : Int) < (x.length : Int) + (y.length : Int)) := by omega
  have i1' : decide ((1048575 : Int) < (x.length : Int) + (y.length : Int)) = false := decide_eq_false i1
  have i2 : (x.length : Int) ≤ 1048575 := by omega
  have i3 : (y.length : Int) ≤ 1048575 := by omega
  have g1 : ¬ (9223372036854775807 < x.length + 1) := by omega
  have g2 : ¬ (9223372036854775807 < x.length + 1 + y.length) := by omega
  obtain ⟨hnil, hp0, hp1⟩ := all_err_nil y.length 0 y (Nat.le_refl _) her
  have hm := all_move (x.length + 1) y.length 0 y (Nat.le_refl _)
  rw [if_neg her, hnil] at hm
  have ej : 0 + x.length + 1 = 0 + (x.length + 1) := by omega
  rw [ej, hm] at hj
  have hj2 : allL 0 (x ++ 10 :: y) = ⟨[], (allL 0 y).err, (allL 0 y).place + ((x.length + 1 : Nat) : Int)⟩ := by
    rw [hj]; unfold Got.app; rw [if_neg her]; rfl
  have hC := cat_any x y
  have A1 : Hid (∀ W, Env W → Calls Tryd.prog 9 #[.string (str x)] W fun e w' => ∃ a cap, e = .returned (.tuple #[.slice a (ts.length + 1) cap, .agg #[.int .i64 0, .int .i64 0]]) ∧ Below W.heap.size W w') := all_fault x _ _ _ (by rw [text_short (by omega), hx]; exact ⟨rfl, rfl, by simp⟩)
  have A2 : Hid (∀ W, Env W → Calls Tryd.prog 9 #[.string (str y)] W fun e w' => ∃ a cap, e = .returned (.tuple #[.slice a 0 cap, .agg #[.int .i64 (allL 0 y).err, .int .i64 (allL 0 y).place]]) ∧ Below W.heap.size W w') := all_fault y _ _ _ (by rw [text_short (by omega), hnil]; exact ⟨rfl, rfl, rfl⟩)
  have A3 : Hid (∀ W, Env W → Calls Tryd.prog 9 #[.string (str (x ++ 10 :: y))] W fun e w' => ∃ a cap, e = .returned (.tuple #[.slice a 0 cap, .agg #[.int .i64 (allL 0 y).err, .int .i64 ((allL 0 y).place + ((x.length + 1 : Nat) : Int))]]) ∧ Below W.heap.size W w') := all_fault (x ++ 10 :: y) 0 _ _ (by rw [text_short (by simp; omega), hj2]; exact ⟨rfl, rfl, rfl⟩)
  clear hj hj2 hnil hm hx ej
  generalize (allL 0 y).err = er at *
  generalize (allL 0 y).place = pl at *
  generalize ts.length + 1 = n1 at *
  generalize str (x ++ [10]) = C1 at *
  generalize str (x ++ 10 :: y) = C at *
  obtain ⟨z0, z1, z2, z3⟩ := hC
  obtain ⟨q1, hq1⟩ : ∃ q1, pl + (x.length : Int) = q1 := ⟨_, rfl⟩
  obtain ⟨q2, hq2⟩ : ∃ q2, q1 + 1 = q2 := ⟨_, rfl⟩
  have hq3 : pl + ((x.length + 1 : Nat) : Int) = q2 := by omega
  rw [hq3] at A3
  have b1 : 0 ≤ pl ∧ pl ≤ 1048577 := by omega
  have b2 : 0 ≤ q1 ∧ q1 ≤ 2097154 := by omega
  have b3 : 0 ≤ q2 ∧ q2 ≤ 2097155 := by omega
  have her' : decide (er = 0) = false := decide_eq_false her
  have r1 : (er == er) = true := by simp
  have r2 : (q2 == q2) = true := by simp
  have HW := hidden awake_any
  have HE := hidden hE
  clear hE h hq3 hp0 hp1
  have al : Hid (∀ {w1 : World} (o : Obj), Below w.heap.size w w1 → Below w.heap.size w (w1.alloc o)) := fun o h => h.alloc h.size o
  go_enter Tryd.func8, Tryd.ntmps8
  go_wp2_with (first
    | (go_at_call 12; (with_reducible refine (HW.out _ (HE.out.below (al.out _ B3.out))).mono ?_); rintro e w4 ⟨rfl, hb4⟩; have B4 := hidden ((al.out _ B3.out).trans (hb4.mono (al.out _ B3.out).size)); have C4 := (S3.out.alloc _).later hb4; have D4 := (two_new _ _ _ _).later hb4; have t0 := C4.c0; have t1 := C4.c1; have s0 := D4.c0; have s1 := D4.c1; clear hb4 C4 D4)
    | (go_at_call 9; (with_reducible refine (A3.out _ (HE.out.below (al.out _ B2.out))).mono ?_); rintro e w3 ⟨a3, p3, rfl, hb3⟩; have B3 := hidden ((al.out _ B2.out).trans (hb3.mono (al.out _ B2.out).size)); have T3 := hidden ((T2.out.alloc _).later hb3); have S3 := hidden ((two_new _ _ _ _).later hb3); have m0 := fun o => (T3.out.alloc o).c0; have m1 := fun o => (T3.out.alloc o).c1; have n0 := fun o => (S3.out.alloc o).c0; have n1 := fun o => (S3.out.alloc o).c1; clear hb3)
    | (go_at_call 9; (with_reducible refine (A2.out _ (HE.out.below (al.out _ B1.out))).mono ?_); rintro e w2 ⟨a2, p2, rfl, hb2⟩; have B2 := hidden ((al.out _ B1.out).trans (hb2.mono (al.out _ B1.out).size)); have T2 := hidden ((two_new _ _ _ _).later hb2); clear hb2)
    | (go_at_call 9; (with_reducible refine (A1.out _ HE.out).mono ?_); rintro e w1 ⟨a1, p1, rfl, hb1⟩; have B1 := hidden hb1; clear hb1))
  go_ret
  exact ⟨rfl, B4.out⟩

theorem flat_news {base w g n cap ts} (h : Toks base w (.slice (some ⟨g, 0, none⟩) n cap) ts) : ∀ j u, (ts.flatMap tokC)[j]? = some u → w.cell? ((⟨g, 0, none⟩ : Addr).add j) = some u := by
  intro j u hj
  have hn : ts ≠ [] := by intro e; subst e; simp at hj
  obtain ⟨g', cap', he, -⟩ := h.open hn
  cases he
  exact World.ownsRow.cells h (g := g) rfl j u hj
theorem flat_one (ts : List Tok) : ∀ u ∈ ts.flatMap tokC, u.oneCell' = true := by
  intro u hu
  obtain ⟨t, -, ht⟩ := List.mem_flatMap.1 hu
  exact tok_one t u ht
theorem flat_prefix {ts us : List Tok} {j : Nat} {u : Value} (h : (ts.flatMap tokC)[j]? = some u) : ((ts ++ us).flatMap tokC)[j]? = some u := by
  rw [List.flatMap_append, List.getElem?_append_left (List.getElem?_eq_some_iff.1 h).1]
  exact h
theorem Toks.join {base w v} {ts us : List Tok} (h : w.ownsRow base 33 4 v (ts.length + us.length) (ts.flatMap tokC ++ us.flatMap tokC)) : Toks base w v (ts ++ us) := by
  unfold Toks
  rw [List.flatMap_append, List.length_append]
  exact h
theorem Toks.lows {base w v ts} (h : Toks base w v ts) : ∀ k, v.ownBlock = some k → base ≤ k := fun k e => by
  rcases Nat.lt_or_ge k base with h1 | h1
  · exact absurd e (h.ne h1)
  · exact h1
theorem AtT.grown {w w' : World} {a : Option Addr} {ts : List Tok} {row : Option Nat} (h : AtT w a ts) (hg : w.grownBy w' row) (hne : ∀ x, a = some x → row ≠ some x.block) : AtT w' a ts := by
  rcases h with h | ⟨g, off, rfl, hc⟩
  · exact Or.inl h
  · refine Or.inr ⟨g, off, rfl, fun k hk => ?_⟩
    have h1 := hc k hk
    have hr : ∀ o, some (⟨g, o, none⟩ : Addr).block ≠ row := fun o e => hne _ rfl e.symm
    exact ⟨hg.cell h1.c0 (hr _), hg.cell h1.c1 (hr _), hg.cell h1.c2 (hr _), hg.cell h1.c3 (hr _)⟩
end Go.Proofs.YtendmdokgpgngaaDoor
