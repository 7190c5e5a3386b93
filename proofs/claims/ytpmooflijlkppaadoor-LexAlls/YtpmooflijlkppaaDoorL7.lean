/- lex.Name; the statements' own examples. -/
import Derived.Test.YtpmooflijlkppaaDoorL6
namespace Go.Proofs.YtpmooflijlkppaaDoor
open Go.ChangeShapes Go.WideShapes Go.ChangeAt Go.RowKit

/-- Is a text a name? -/
def nameB (l : List UInt8) : Bool := decide (l.length ≤ 16) && (letB (by8 l 0) && decide (rowN wordB l = l.length))
theorem take_row {p : Int → Bool} {l : List UInt8} : (l.take (rowN p l) == l) = decide (rowN p l = l.length) := by
  by_cases h : rowN p l = l.length
  · rw [decide_eq_true h, h, List.take_length]; simp
  · rw [decide_eq_false h]
    have : ¬ (l.take (rowN p l) = l) := by
      intro e
      have h2 := congrArg List.length e
      rw [List.length_take] at h2
      have := rowN_le p l
      omega
    simpa using this
set_option maxHeartbeats 1000000 in
theorem name_any (l : List UInt8) (w : World) : Calls Tryd.prog 22 #[.string (str l)] w fun e w' => e = .returned (.bool (nameB l)) ∧ Below w.heap.size w w' := by
  have e1 := str_size l
  have en : nameB l = (decide (l.length ≤ 16) && (letB (by8 l 0) && decide (rowN wordB l = l.length))) := rfl
  by_cases h1 : l.length ≤ 16
  · have i1 : (l.length : Int) ≤ 16 := by omega
    have HC : Hid (Cur 49 w.heap.size l 0 (w.alloc (.cells #[.string (str l), .int .i64 0] 49))) := by
      show ((w.heap.push _)[w.heap.size]? = _)
      simp
    have HA : Hid (∀ W, Cur 49 w.heap.size l 0 W → Calls Tryd.prog 33 #[.pointer (some ⟨w.heap.size, 0, none⟩), .int .i64 0] W fun e w' => e = .returned (.int .u8 (by8 l 0)) ∧ Moved 49 w.heap.size l 0 W w') :=
      fun W hc => (ahead_any _ _ l 0 0 W hc (by omega) (by omega) (by decide)).mono fun _ _ ⟨h1, m, h2⟩ => ⟨h1, by rw [h2]; exact Moved.drew hc m⟩
    have HL := hidden (isLetter_any (by8 l 0))
    have HR : Hid (∀ W, Cur 49 w.heap.size l 0 W → Calls Tryd.prog 31 #[.pointer (some ⟨w.heap.size, 0, none⟩), .func (.func 46) #[] #[]] W fun e w' => e = .returned (.string (str (l.take (rowN wordB l)))) ∧ Moved 49 w.heap.size l (0 + rowN wordB l) W w') :=
      fun W hc => row_any _ _ _ tells_word _ l 0 W hc (by omega) (by omega)
    have e2 := str_list l
    have e3 := str_list (l.take (rowN wordB l))
    have e4 := take_row (p := wordB) (l := l)
    rw [decide_eq_true h1, Bool.true_and] at en
    rw [en]
    clear en
    have hlow : Hid (∀ w1, (w.alloc (.cells #[.string (str l), .int .i64 0] 49)).grownBy w1 (some w.heap.size) → Below w.heap.size w w1) := fun w1 hg =>
      below_grown ((Below.refl _ _).alloc (Nat.le_refl _) _) hg (Nat.le_refl _) (by simp)
    generalize decide (rowN wordB l = l.length) = d at *
    generalize rowN wordB l = N at *
    generalize by8 l 0 = x at *
    generalize letB x = y at *
    cases y
    · go_enter Tryd.func22, Tryd.ntmps22
      go_wp2_with (first
        | (go_at_call 36; (with_reducible refine (HL.out _).mono ?_); rintro e w' ⟨rfl, rfl⟩)
        | (go_at_call 33; (with_reducible refine (HA.out _ HC.out).mono ?_); rintro e w1 ⟨rfl, hm1⟩; have M1 := hidden hm1; clear hm1))
      go_ret
      exact ⟨rfl, hlow.out _ M1.out.grown⟩
    · go_enter Tryd.func22, Tryd.ntmps22
      go_wp2_with (first
        | (go_at_call 31; (with_reducible refine (HR.out _ M1.out.cur).mono ?_); rintro e w2 ⟨rfl, hm2⟩; have M2 := hidden hm2; clear hm2)
        | (go_at_call 36; (with_reducible refine (HL.out _).mono ?_); rintro e w' ⟨rfl, rfl⟩)
        | (go_at_call 33; (with_reducible refine (HA.out _ HC.out).mono ?_); rintro e w1 ⟨rfl, hm1⟩; have M1 := hidden hm1; clear hm1))
      go_ret
      exact ⟨rfl, hlow.out _ (Lib.grownBy_trans M1.out.grown M2.out.grown)⟩
  · have i1 : decide ((l.length : Int) ≤ 16) = false := decide_eq_false (by omega)
    have i2 : ¬ ((l.length : Int) ≤ 16) := by omega
    rw [decide_eq_false h1, Bool.false_and] at en
    rw [en]
    go_enter Tryd.func22, Tryd.ntmps22
    go_wp2
    go_ret
    exact ⟨rfl, (Below.refl _ _).alloc (Nat.le_refl _) _⟩

/-- A row of tokens, cell by cell. -/
theorem Toks.open {base w v ts} (h : Toks base w v ts) (hn : ts ≠ []) : ∃ g cap, v = .slice (some ⟨g, 0, none⟩) ts.length cap ∧ ∀ j u, (ts.flatMap tokC)[j]? = some u → w.cell? ⟨g, j, none⟩ = some u := by
  have h0 := h
  rcases h.2 with ⟨-, h2⟩ | ⟨g, cap, cur, rfl, -⟩
  · exact absurd (List.eq_nil_of_length_eq_zero h2) hn
  · refine ⟨g, cap, rfl, fun j u hj => ?_⟩
    have h1 := World.ownsRow.cells h0 (g := g) rfl j u hj
    have e : (⟨g, 0, none⟩ : Addr).add j = ⟨g, j, none⟩ := by
      unfold Addr.add
      by_cases h0 : j = 0
      · subst h0; rfl
      · simp [h0]
    rw [e] at h1
    exact h1
theorem Toks.cell {base w g n cap ts} (h : Toks base w (.slice (some ⟨g, 0, none⟩) n cap) ts) {j : Nat} {u : Value} (hj : (ts.flatMap tokC)[j]? = some u) : w.cell? ⟨g, j, none⟩ = some u := by
  have hn : ts ≠ [] := by intro e; subst e; simp at hj
  obtain ⟨g', cap', he, hc⟩ := h.open hn
  cases he
  exact hc j u hj
/-- A variable of two cells, made ahead of a call, read behind it and one new block. -/
theorem var_behind {w1 w2 : World} {x y : Value} {T : TypeId} (hb : Below (w1.alloc (.cells #[x, y] T)).heap.size (w1.alloc (.cells #[x, y] T)) w2) (o : Obj) :
    (w2.alloc o).cell? ⟨w1.heap.size, 0, none⟩ = some x ∧ (w2.alloc o).cell? ⟨w1.heap.size, 1, none⟩ = some y := by
  have h1 : w1.heap.size < (w1.alloc (.cells #[x, y] T)).heap.size := by simp
  have hb2 := hb.trans (((Below.refl w2.heap.size w2).alloc (Nat.le_refl _) o).mono hb.size)
  exact ⟨(hb2.cell (p := ⟨w1.heap.size, 0, none⟩) h1).trans (by simp), (hb2.cell (p := ⟨w1.heap.size, 1, none⟩) h1).trans (by simp)⟩
theorem Toks.later2 {base w1 w2 v ts} {o1 : Obj} (h : Toks base w1 v ts) (hb : Below (w1.alloc o1).heap.size (w1.alloc o1) w2) (o : Obj) : Toks base (w2.alloc o) v ts :=
  ((h.below ((Below.refl _ _).alloc (Nat.le_refl _) _)).below hb).below ((Below.refl _ _).alloc (Nat.le_refl _) _)
theorem text1 : textG [97, 32, 45, 62, 32, 45, 53, 59] = ⟨[⟨1, [97], 0, 0⟩, ⟨3, [45, 62], 0, 2⟩, ⟨2, [], -5, 5⟩, ⟨3, [59], 0, 7⟩, ⟨0, [], 0, 8⟩], 0, 0⟩ := by kernel_rfl
theorem text2 : textG [97, 32, 45, 32, 98] = ⟨[], 40, 2⟩ := by kernel_rfl
set_option maxRecDepth 100000 in
set_option maxHeartbeats 2000000 in
theorem awake_any (w : World) (hE : Env w) : Calls Tryd.prog 10 #[] w fun e w' => e = .returned (.bool true) ∧ Below w.heap.size w w' := by
  have A1 : Hid (∀ W, Env W → Calls Tryd.prog 7 #[.string ⟨#[97, 32, 45, 62, 32, 45, 53, 59]⟩] W fun e w' => ∃ g cap, e = .returned (.tuple #[.slice (some ⟨g, 0, none⟩) 5 cap, .agg #[.int .i64 0, .int .i64 0]]) ∧ Toks W.heap.size w' (.slice (some ⟨g, 0, none⟩) 5 cap) (textG [97, 32, 45, 62, 32, 45, 53, 59]).toks ∧ Below W.heap.size W w') := fun W hW =>
    (all_any [97, 32, 45, 62, 32, 45, 53, 59] W hW).mono fun _ _ ⟨v, he, ht, hb⟩ => by
      obtain ⟨g, cap, rfl, -⟩ := ht.open (by rw [text1]; simp)
      rw [text1] at he
      exact ⟨g, cap, he, ht, hb⟩
  have A2 : Hid (∀ W, Env W → Calls Tryd.prog 7 #[.string ⟨#[97, 32, 45, 32, 98]⟩] W fun e w' => ∃ v, e = .returned (.tuple #[v, .agg #[.int .i64 40, .int .i64 2]]) ∧ Below W.heap.size W w') := fun W hW =>
    (all_any [97, 32, 45, 32, 98] W hW).mono fun _ _ ⟨v, he, ht, hb⟩ => by
      rw [text2] at he
      exact ⟨v, he, hb⟩
  have N1 : Hid (∀ W, Calls Tryd.prog 22 #[.string ⟨#[97, 95, 49]⟩] W fun e w' => e = .returned (.bool true) ∧ Below W.heap.size W w') := fun W => name_any [97, 95, 49] W
  have N2 : Hid (∀ W, Calls Tryd.prog 22 #[.string ⟨#[49, 97]⟩] W fun e w' => e = .returned (.bool false) ∧ Below W.heap.size W w') := fun W => name_any [49, 97] W
  have HE := hidden hE
  clear hE
  go_enter Tryd.func10, Tryd.ntmps10
  go_wp2_with (first
    | (go_at_call 22; (with_reducible refine (N2.out _).mono ?_); rintro e w4 ⟨rfl, hb4⟩; have B4 := hidden hb4; clear hb4)
    | (go_at_call 22; (with_reducible refine (N1.out _).mono ?_); rintro e w3 ⟨rfl, hb3⟩; have B3 := hidden hb3; clear hb3)
    | (go_at_call 7; (with_reducible refine (A2.out _ (E1.out _)).mono ?_); rintro e w2 ⟨v2, rfl, hb2⟩; have B2 := hidden hb2; have F0 := fun o => (var_behind hb2 o).1; have F1 := fun o => (var_behind hb2 o).2; have K0 := fun o => ((T1.out.later2 hb2 o).cell (j := 0) rfl); have K1 : ∀ o, (w2.alloc o).cell? ⟨g, 1, none⟩ = some (.string ⟨#[97]⟩) := fun o => ((T1.out.later2 hb2 o).cell (j := 1) rfl); have K2 := fun o => ((T1.out.later2 hb2 o).cell (j := 2) rfl); have K3 := fun o => ((T1.out.later2 hb2 o).cell (j := 3) rfl); have K4 := fun o => ((T1.out.later2 hb2 o).cell (j := 4) rfl); have K5 : ∀ o, (w2.alloc o).cell? ⟨g, 5, none⟩ = some (.string ⟨#[45, 62]⟩) := fun o => ((T1.out.later2 hb2 o).cell (j := 5) rfl); have K6 := fun o => ((T1.out.later2 hb2 o).cell (j := 6) rfl); have K7 := fun o => ((T1.out.later2 hb2 o).cell (j := 7) rfl); have K8 := fun o => ((T1.out.later2 hb2 o).cell (j := 8) rfl); have K9 : ∀ o, (w2.alloc o).cell? ⟨g, 9, none⟩ = some (.string ⟨#[]⟩) := fun o => ((T1.out.later2 hb2 o).cell (j := 9) rfl); have K10 := fun o => ((T1.out.later2 hb2 o).cell (j := 10) rfl); have K11 := fun o => ((T1.out.later2 hb2 o).cell (j := 11) rfl); have K12 := fun o => ((T1.out.later2 hb2 o).cell (j := 12) rfl); have K13 : ∀ o, (w2.alloc o).cell? ⟨g, 13, none⟩ = some (.string ⟨#[59]⟩) := fun o => ((T1.out.later2 hb2 o).cell (j := 13) rfl); have K14 := fun o => ((T1.out.later2 hb2 o).cell (j := 14) rfl); have K15 := fun o => ((T1.out.later2 hb2 o).cell (j := 15) rfl); have K16 := fun o => ((T1.out.later2 hb2 o).cell (j := 16) rfl); have K17 : ∀ o, (w2.alloc o).cell? ⟨g, 17, none⟩ = some (.string ⟨#[]⟩) := fun o => ((T1.out.later2 hb2 o).cell (j := 17) rfl); have K18 := fun o => ((T1.out.later2 hb2 o).cell (j := 18) rfl); have K19 := fun o => ((T1.out.later2 hb2 o).cell (j := 19) rfl); clear hb2)
    | (go_at_call 7; (with_reducible refine (A1.out _ HE.out).mono ?_); rintro e w1 ⟨g, cap, rfl, ht1, hb1⟩; have B1 := hidden hb1; rw [text1] at ht1; have T1 := hidden ht1; have E1 : Hid (∀ o, Env (w1.alloc o)) := fun o => (HE.out.below hb1).below ((Below.refl _ _).alloc (Nat.le_refl _) _); clear hb1 ht1))
  go_ret
  refine ⟨rfl, ?_⟩
  have b2 := B1.out.trans ((((Below.refl w1.heap.size w1).alloc (Nat.le_refl _) _).trans (B2.out.mono (by simp))).mono B1.out.size)
  have b3 := b2.alloc b2.size (.cells #[.int .i64 40, .int .i64 2] 25)
  have b4 := b3.trans (B3.out.mono b3.size)
  exact b4.trans (B4.out.mono b4.size)
end Go.Proofs.YtpmooflijlkppaaDoor
