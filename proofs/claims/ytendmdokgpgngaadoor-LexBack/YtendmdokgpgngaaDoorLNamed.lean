/- A name is what is read as one word (LexNamed). -/
import Derived.Test.YtendmdokgpgngaaDoorL7
namespace Go.Proofs.YtendmdokgpgngaaDoor
open Go.ChangeShapes Go.WideShapes Go.ChangeAt Go.RowKit

theorem skip_letter {l : List UInt8} (h : letB (by8 l 0) = true) : skipN false l = 0 := by
  refine skip_none ?_ ?_
  · generalize by8 l 0 = x at h
    unfold letB at h
    rw [Bool.and_eq_true, decide_eq_true_iff, decide_eq_true_iff] at h
    unfold blankB
    rw [decide_eq_false (by omega), decide_eq_false (by omega), decide_eq_false (by omega), decide_eq_false (by omega)]
    rfl
  · intro e; rw [e] at h; cases h
theorem named_yes {l : List UInt8} (h : nameB l = true) : textG l = ⟨[⟨1, l, 0, 0⟩, ⟨0, [], 0, (l.length : Int)⟩], 0, 0⟩ := by
  unfold nameB at h
  rw [Bool.and_eq_true, Bool.and_eq_true, decide_eq_true_iff, decide_eq_true_iff] at h
  obtain ⟨h1, h2, h3⟩ := h
  have hne : l ≠ [] := by intro e; subst e; exact absurd h2 (by decide)
  have hs := skip_letter h2
  have ht : tokO l = ⟨⟨1, l, 0, 0⟩, 0, l.length⟩ := by
    unfold tokO
    rw [if_pos h2]
    unfold wordO
    rw [if_neg (by omega), h3, List.take_length]
  have e1 : textG l = allL 0 l := by unfold textG; rw [if_neg (by omega)]
  have e2 := allL_tok (p := 0) (l := l) (by rw [hs, List.drop_zero]; exact hne) (by rw [hs, List.drop_zero, ht])
  rw [hs, List.drop_zero, ht] at e2
  simp only [Nat.zero_add, List.drop_length] at e2
  have e3 : allL l.length ([] : List UInt8) = ⟨[⟨0, [], 0, (l.length : Int)⟩], 0, 0⟩ := rfl
  rw [e1, e2, e3]
  rfl
theorem tok_word {l : List UInt8} (he : (tokO l).err = 0) (hs : (tokO l).tok.sort = 1) : letB (by8 l 0) = true ∧ rowN wordB l ≤ 16 ∧ tokO l = ⟨⟨1, l.take (rowN wordB l), 0, 0⟩, 0, rowN wordB l⟩ := by
  unfold tokO at he hs ⊢
  by_cases h1 : letB (by8 l 0) = true
  · rw [if_pos h1] at he hs ⊢
    unfold wordO at he hs ⊢
    by_cases h2 : 16 < rowN wordB l
    · rw [if_pos h2] at he; cases he
    · rw [if_neg h2]
      exact ⟨h1, by omega, rfl⟩
  exfalso
  rw [if_neg h1] at he hs
  by_cases h2 : (digB (by8 l 0) || (decide (by8 l 0 = 45) && digB (by8 l 1))) = true
  · rw [if_pos h2] at he hs
    unfold numberO at he hs
    simp only at he hs
    split at hs
    · rename_i h; rw [h] at he; cases he
    · cases hs
  · rw [if_neg h2] at he hs
    by_cases h3 : markB (by8 l 0) = true
    · rw [if_pos h3] at hs; cases hs
    · rw [if_neg h3] at he hs
      by_cases h4 : (decide (by8 l 0 = 45) && decide (by8 l 1 = 62)) = true
      · rw [if_pos h4] at hs; cases hs
      · rw [if_neg h4] at he; cases he
theorem named_no {l : List UInt8} {t : Tok} {ts : List Tok} (h : textG l = ⟨t :: ts, 0, 0⟩) (ht : t.sort = 1 ∧ t.text = l ∧ t.place = 0) : nameB l = true := by
  unfold textG at h
  split at h
  · cases h
  by_cases h1 : l.drop (skipN false l) = []
  · rw [allL_end h1] at h
    cases h
    cases ht.1
  by_cases h2 : (tokO (l.drop (skipN false l))).err = 0
  · rw [allL_tok h1 h2] at h
    unfold Got.cons at h
    split at h
    · simp only [Got.mk.injEq, List.cons.injEq] at h
      obtain ⟨⟨h3, -⟩, -⟩ := h
      subst h3
      obtain ⟨a1, a2, a3⟩ := ht
      simp only at a1 a2 a3
      have hk : skipN false l = 0 := by omega
      rw [hk, List.drop_zero] at a1 a2 h2
      obtain ⟨b1, b2, b3⟩ := tok_word h2 a1
      rw [b3] at a2
      simp only at a2
      have b4 : rowN wordB l = l.length := by
        have := congrArg List.length a2
        rw [len_take_row] at this
        exact this
      unfold nameB
      rw [b1, decide_eq_true b4, decide_eq_true (by omega)]
      rfl
    · rename_i h3
      have := congrArg Got.err h
      exact absurd this h3
  · rw [allL_err h1 h2] at h
    cases h

theorem alloc_toks {base w v ts} (h : Toks base w v ts) (o : Obj) : Toks base (w.alloc o) v ts := h.below ((Below.refl _ _).alloc (Nat.le_refl _) _)
set_option maxHeartbeats 1000000 in
theorem lexNamed_yes (l : List UInt8) (w : World) (hE : Env w) (hy : nameB l = true) : Calls Tryd.prog 5 #[.string (str l)] w fun e w' => e = .returned (.bool true) ∧ Below w.heap.size w w' := by
  have HA : Hid (∀ W, Env W → Calls Tryd.prog 9 #[.string (str l)] W fun e w' => ∃ g cap, e = .returned (.tuple #[.slice (some ⟨g, 0, none⟩) 2 cap, .agg #[.int .i64 0, .int .i64 0]]) ∧ (∀ o, (w'.alloc o).cell? ⟨g, 0, none⟩ = some (.int .u8 1) ∧ (w'.alloc o).cell? ⟨g, 1, none⟩ = some (.string (str l)) ∧ (w'.alloc o).cell? ⟨g, 2, none⟩ = some (.int .i64 0) ∧ (w'.alloc o).cell? ⟨g, 3, none⟩ = some (.int .i64 0)) ∧ Below W.heap.size W w') := fun W hW =>
    (all_any l W hW).mono fun _ w' ⟨v, he, ht, hb⟩ => by
      rw [named_yes hy] at he ht
      obtain ⟨g, cap, rfl, -⟩ := ht.open (by simp)
      exact ⟨g, cap, he, fun o => ⟨(alloc_toks ht o).cell (j := 0) rfl, (alloc_toks ht o).cell (j := 1) rfl, (alloc_toks ht o).cell (j := 2) rfl, (alloc_toks ht o).cell (j := 3) rfl⟩, hb⟩
  have HN := hidden (name_any l)
  have HW := hidden awake_any
  have HE := hidden hE
  rw [hy] at HN
  clear hE hy
  have e1 := str_list l
  go_enter Tryd.func5, Tryd.ntmps5
  go_wp2_with (first
    | (go_at_call 14; (with_reducible refine (HN.out _).mono ?_); rintro e w3 ⟨rfl, hb3⟩; have B3 := hidden hb3; clear hb3)
    | (go_at_call 12; (with_reducible refine (HW.out _ (E1.out _)).mono ?_); rintro e w2 ⟨rfl, hb2⟩; have B2 := hidden hb2; clear hb2)
    | (go_at_call 9; (with_reducible refine (HA.out _ HE.out).mono ?_); rintro e w1 ⟨g, cap, rfl, hk, hb1⟩; have B1 := hidden hb1; have E1 : Hid (∀ o, Env (w1.alloc o)) := fun o => (HE.out.below hb1).below ((Below.refl _ _).alloc (Nat.le_refl _) _); have k0 := fun o => (hk o).1; have k1 := fun o => (hk o).2.1; have k2 := fun o => (hk o).2.2.1; have k3 := fun o => (hk o).2.2.2; clear hb1 hk))
  go_ret
  refine ⟨rfl, ?_⟩
  have b1 := B1.out.alloc B1.out.size (.cells #[.int .i64 0, .int .i64 0] 25)
  have b2 := b1.trans (B2.out.mono b1.size)
  exact b2.trans (B3.out.mono b2.size)
theorem text_zero {l : List UInt8} (h : (textG l).err = 0) : (textG l).place = 0 := by
  unfold textG at h ⊢
  split
  · rename_i h1; rw [if_pos h1] at h; cases h
  · rename_i h1; rw [if_neg h1] at h; exact allL_zero h
theorem Toks.shape {base w v ts} (h : Toks base w v ts) : ∃ a cap, v = .slice a ts.length cap := by
  rcases h.2 with ⟨h1, h2⟩ | ⟨g, cap, cur, rfl, -⟩
  · exact ⟨none, 0, by rw [h1, h2]⟩
  · exact ⟨_, cap, rfl⟩
set_option maxHeartbeats 1000000 in
theorem lexNamed_err (l : List UInt8) (w : World) (hE : Env w) (hy : nameB l = false) (her : (textG l).err ≠ 0) : Calls Tryd.prog 5 #[.string (str l)] w fun e w' => e = .returned (.bool true) ∧ Below w.heap.size w w' := by
  have HA : Hid (∀ W, Env W → Calls Tryd.prog 9 #[.string (str l)] W fun e w' => ∃ v, e = .returned (.tuple #[v, .agg #[.int .i64 (textG l).err, .int .i64 (textG l).place]]) ∧ Below W.heap.size W w') := fun W hW =>
    (all_any l W hW).mono fun _ w' ⟨v, he, ht, hb⟩ => ⟨v, he, hb⟩
  generalize (textG l).err = er at *
  generalize (textG l).place = pl at *
  have her' : decide (er = 0) = false := decide_eq_false her
  have HN := hidden (name_any l)
  have HW := hidden awake_any
  have HE := hidden hE
  rw [hy] at HN
  clear hE
  go_enter Tryd.func5, Tryd.ntmps5
  go_wp2_with (first
    | (go_at_call 14; (with_reducible refine (HN.out _).mono ?_); rintro e w3 ⟨rfl, hb3⟩; have B3 := hidden hb3; clear hb3)
    | (go_at_call 12; (with_reducible refine (HW.out _ (E1.out _)).mono ?_); rintro e w2 ⟨rfl, hb2⟩; have B2 := hidden hb2; clear hb2)
    | (go_at_call 9; (with_reducible refine (HA.out _ HE.out).mono ?_); rintro e w1 ⟨v, rfl, hb1⟩; have B1 := hidden hb1; have E1 : Hid (∀ o, Env (w1.alloc o)) := fun o => (HE.out.below hb1).below ((Below.refl _ _).alloc (Nat.le_refl _) _); clear hb1))
  go_ret
  refine ⟨rfl, ?_⟩
  have b1 := B1.out.alloc B1.out.size (.cells #[.int .i64 er, .int .i64 pl] 25)
  have b2 := b1.trans (B2.out.mono b1.size)
  exact b2.trans (B3.out.mono b2.size)
set_option maxHeartbeats 1000000 in
theorem lexNamed_len (l : List UInt8) (w : World) (hE : Env w) (hy : nameB l = false) (her : (textG l).err = 0) (hn : (textG l).toks.length ≠ 2) : Calls Tryd.prog 5 #[.string (str l)] w fun e w' => e = .returned (.bool true) ∧ Below w.heap.size w w' := by
  have HA : Hid (∀ W, Env W → Calls Tryd.prog 9 #[.string (str l)] W fun e w' => ∃ a cap, e = .returned (.tuple #[.slice a (textG l).toks.length cap, .agg #[.int .i64 0, .int .i64 0]]) ∧ Below W.heap.size W w') := fun W hW =>
    (all_any l W hW).mono fun _ w' ⟨v, he, ht, hb⟩ => by
      obtain ⟨a, cap, rfl⟩ := ht.shape
      rw [her, text_zero her] at he
      exact ⟨a, cap, he, hb⟩
  generalize (textG l).toks.length = n at *
  have hn1 : ¬ ((n : Int) = 2) := by omega
  have hn2 : decide ((n : Int) = 2) = false := decide_eq_false hn1
  clear her
  have HN := hidden (name_any l)
  have HW := hidden awake_any
  have HE := hidden hE
  rw [hy] at HN
  clear hE
  go_enter Tryd.func5, Tryd.ntmps5
  go_wp2_with (first
    | (go_at_call 14; (with_reducible refine (HN.out _).mono ?_); rintro e w3 ⟨rfl, hb3⟩; have B3 := hidden hb3; clear hb3)
    | (go_at_call 12; (with_reducible refine (HW.out _ (E1.out _)).mono ?_); rintro e w2 ⟨rfl, hb2⟩; have B2 := hidden hb2; clear hb2)
    | (go_at_call 9; (with_reducible refine (HA.out _ HE.out).mono ?_); rintro e w1 ⟨a, cap, rfl, hb1⟩; have B1 := hidden hb1; have E1 : Hid (∀ o, Env (w1.alloc o)) := fun o => (HE.out.below hb1).below ((Below.refl _ _).alloc (Nat.le_refl _) _); clear hb1))
  go_ret
  refine ⟨rfl, ?_⟩
  have b1 := B1.out.alloc B1.out.size (.cells #[.int .i64 0, .int .i64 0] 25)
  have b2 := b1.trans (B2.out.mono b1.size)
  exact b2.trans (B3.out.mono b2.size)
set_option maxHeartbeats 2000000 in
theorem lexNamed_tok (l : List UInt8) (w : World) (hE : Env w) (hy : nameB l = false) (t u : Tok) (htg : textG l = ⟨[t, u], 0, 0⟩) : Calls Tryd.prog 5 #[.string (str l)] w fun e w' => e = .returned (.bool true) ∧ Below w.heap.size w w' := by
  have hno : ¬ (t.sort = 1 ∧ t.text = l ∧ t.place = 0) := fun h => by rw [named_no htg h] at hy; cases hy
  have HA : Hid (∀ W, Env W → Calls Tryd.prog 9 #[.string (str l)] W fun e w' => ∃ g cap, e = .returned (.tuple #[.slice (some ⟨g, 0, none⟩) 2 cap, .agg #[.int .i64 0, .int .i64 0]]) ∧ (∀ o, (w'.alloc o).cell? ⟨g, 0, none⟩ = some (.int .u8 t.sort) ∧ (w'.alloc o).cell? ⟨g, 1, none⟩ = some (.string (str t.text)) ∧ (w'.alloc o).cell? ⟨g, 2, none⟩ = some (.int .i64 t.num) ∧ (w'.alloc o).cell? ⟨g, 3, none⟩ = some (.int .i64 t.place)) ∧ Below W.heap.size W w') := fun W hW =>
    (all_any l W hW).mono fun _ w' ⟨v, he, ht, hb⟩ => by
      rw [htg] at he ht
      obtain ⟨g, cap, rfl, -⟩ := ht.open (by simp)
      exact ⟨g, cap, he, fun o => ⟨(alloc_toks ht o).cell (j := 0) rfl, (alloc_toks ht o).cell (j := 1) rfl, (alloc_toks ht o).cell (j := 2) rfl, (alloc_toks ht o).cell (j := 3) rfl⟩, hb⟩
  have e1 := str_list l
  have e2 := str_list t.text
  clear htg
  obtain ⟨so, tx, nm, pl⟩ := t
  simp only at hno HA e2
  have HN := hidden (name_any l)
  have HW := hidden awake_any
  have HE := hidden hE
  rw [hy] at HN
  clear hE
  by_cases h1 : so = 1
  · subst h1
    by_cases h2 : tx = l
    · subst h2
      have h3 : ¬ (pl = 0) := fun e => hno ⟨rfl, rfl, e⟩
      have h3' : decide (pl = 0) = false := decide_eq_false h3
      go_enter Tryd.func5, Tryd.ntmps5
      go_wp2_with (first
        | (go_at_call 14; (with_reducible refine (HN.out _).mono ?_); rintro e w3 ⟨rfl, hb3⟩; have B3 := hidden hb3; clear hb3)
        | (go_at_call 12; (with_reducible refine (HW.out _ (E1.out _)).mono ?_); rintro e w2 ⟨rfl, hb2⟩; have B2 := hidden hb2; clear hb2)
        | (go_at_call 9; (with_reducible refine (HA.out _ HE.out).mono ?_); rintro e w1 ⟨g, cap, rfl, hk, hb1⟩; have B1 := hidden hb1; have E1 : Hid (∀ o, Env (w1.alloc o)) := fun o => (HE.out.below hb1).below ((Below.refl _ _).alloc (Nat.le_refl _) _); have k0 := fun o => (hk o).1; have k1 := fun o => (hk o).2.1; have k2 := fun o => (hk o).2.2.1; have k3 := fun o => (hk o).2.2.2; clear hk; clear hb1))
      all_goals go_ret
      all_goals refine ⟨rfl, ?_⟩
      all_goals have b1 := B1.out.alloc B1.out.size (.cells #[.int .i64 0, .int .i64 0] 25)
      all_goals have b2 := b1.trans (B2.out.mono b1.size)
      all_goals exact b2.trans (B3.out.mono b2.size)
    · have h2' : (tx == l) = false := by simpa using h2
      go_enter Tryd.func5, Tryd.ntmps5
      go_wp2_with (first
        | (go_at_call 14; (with_reducible refine (HN.out _).mono ?_); rintro e w3 ⟨rfl, hb3⟩; have B3 := hidden hb3; clear hb3)
        | (go_at_call 12; (with_reducible refine (HW.out _ (E1.out _)).mono ?_); rintro e w2 ⟨rfl, hb2⟩; have B2 := hidden hb2; clear hb2)
        | (go_at_call 9; (with_reducible refine (HA.out _ HE.out).mono ?_); rintro e w1 ⟨g, cap, rfl, hk, hb1⟩; have B1 := hidden hb1; have E1 : Hid (∀ o, Env (w1.alloc o)) := fun o => (HE.out.below hb1).below ((Below.refl _ _).alloc (Nat.le_refl _) _); have k0 := fun o => (hk o).1; have k1 := fun o => (hk o).2.1; have k2 := fun o => (hk o).2.2.1; have k3 := fun o => (hk o).2.2.2; clear hk; clear hb1))
      all_goals go_ret
      all_goals refine ⟨rfl, ?_⟩
      all_goals have b1 := B1.out.alloc B1.out.size (.cells #[.int .i64 0, .int .i64 0] 25)
      all_goals have b2 := b1.trans (B2.out.mono b1.size)
      all_goals exact b2.trans (B3.out.mono b2.size)
  · have h1' : decide (so = 1) = false := decide_eq_false h1
    go_enter Tryd.func5, Tryd.ntmps5
    go_wp2_with (first
      | (go_at_call 14; (with_reducible refine (HN.out _).mono ?_); rintro e w3 ⟨rfl, hb3⟩; have B3 := hidden hb3; clear hb3)
      | (go_at_call 12; (with_reducible refine (HW.out _ (E1.out _)).mono ?_); rintro e w2 ⟨rfl, hb2⟩; have B2 := hidden hb2; clear hb2)
      | (go_at_call 9; (with_reducible refine (HA.out _ HE.out).mono ?_); rintro e w1 ⟨g, cap, rfl, hk, hb1⟩; have B1 := hidden hb1; have E1 : Hid (∀ o, Env (w1.alloc o)) := fun o => (HE.out.below hb1).below ((Below.refl _ _).alloc (Nat.le_refl _) _); have k0 := fun o => (hk o).1; have k1 := fun o => (hk o).2.1; have k2 := fun o => (hk o).2.2.1; have k3 := fun o => (hk o).2.2.2; clear hk; clear hb1))
    all_goals go_ret
    all_goals refine ⟨rfl, ?_⟩
    all_goals have b1 := B1.out.alloc B1.out.size (.cells #[.int .i64 0, .int .i64 0] 25)
    all_goals have b2 := b1.trans (B2.out.mono b1.size)
    all_goals exact b2.trans (B3.out.mono b2.size)
theorem lexNamed_walk (l : List UInt8) (w : World) (hE : Env w) : Calls Tryd.prog 5 #[.string (str l)] w fun e w' => e = .returned (.bool true) ∧ Below w.heap.size w w' := by
  cases hy : nameB l with
  | true => exact lexNamed_yes l w hE hy
  | false =>
    by_cases her : (textG l).err = 0
    · by_cases hn : (textG l).toks.length = 2
      · have hp := text_zero her
        obtain ⟨t, u, htu⟩ : ∃ t u, (textG l).toks = [t, u] := by
          generalize (textG l).toks = ts at hn
          match ts, hn with
          | [t, u], _ => exact ⟨t, u, rfl⟩
        refine lexNamed_tok l w hE hy t u ?_
        rw [← htu, ← her]
        generalize textG l = g at *
        obtain ⟨a, b, c⟩ := g
        simp only at her hp
        subst her
        subst hp
        rfl
      · exact lexNamed_len l w hE hy her hn
    · exact lexNamed_err l w hE hy her
end Go.Proofs.YtendmdokgpgngaaDoor
