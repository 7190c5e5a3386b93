/- A name is what is read as one word (LexNamed). -/
import Derived.Test.YtpmooflijlkppaaDoorL7
namespace Go.Proofs.YtpmooflijlkppaaDoor
open Go.ChangeShapes Go.WideShapes Go.ChangeAt Go.RowKit

theorem skip_letter {l : List UInt8} (h : letB (by8 l 0) = true) : skipN false l = 0 := by
  refine skip_none ?_ ?_
  · generalize by8 l 0 = x at h
    unfold letB at h
    rw [Bool.and_eq_true, decide_eq_true_iff, decide_eq_true_iff] at h
    unfold blankB
    rw [decide_eq_false (by omega), decide_eq_false (by omega), decide_eq_false (by omega), decide_eq_false (by omega)]
    rfl
  · intro e; rw [e] at h; cases h
theorem named_yes {l : List UInt8} (h : nameB l = true) : textG l = ⟨[⟨1, l, 0, 0⟩, ⟨0, [], 0, (l.length : Int)⟩], 0, 0⟩ := by
  unfold nameB at h
  rw [Bool.and_eq_true, Bool.and_eq_true, decide_eq_true_iff, decide_eq_true_iff] at h
  obtain ⟨h1, h2, h3⟩ := h
  have hne : l ≠ [] := by intro e; subst e; exact absurd h2 (by decide)
  have hs := skip_letter h2
  have ht : tokO l = ⟨⟨1, l, 0, 0⟩, 0, l.length⟩ := by
    unfold tokO
    rw [if_pos h2]
    unfold wordO
    rw [if_neg (by omega), h3, List.take_length]
  have e1 : textG l = allL 0 l := by unfold textG; rw [if_neg (by omega)]
  have e2 := allL_tok (p := 0) (l := l) (by rw [hs, List.drop_zero]; exact hne) (by rw [hs, List.drop_zero, ht])
  rw [hs, List.drop_zero, ht] at e2
  simp only [Nat.zero_add, List.drop_length] at e2
  have e3 : allL l.length ([] : List UInt8) = ⟨[⟨0, [], 0, (l.length : Int)⟩], 0, 0⟩ := rfl
  rw [e1, e2, e3]
  rfl
theorem tok_word {l : List UInt8} (he : (tokO l).err = 0) (hs : (tokO l).tok.sort = 1) : letB (by8 l 0) = true ∧ rowN wordB l ≤ 16 ∧ tokO l = ⟨⟨1, l.take (rowN wordB l), 0, 0⟩, 0, rowN wordB l⟩ := by
  unfold tokO at he hs ⊢
  by_cases h1 : letB (by8 l 0) = true
  · rw [if_pos h1] at he hs ⊢
    unfold wordO at he hs ⊢
    by_cases h2 : 16 < rowN wordB l
    · rw [if_pos h2] at he; cases he
    · rw [if_neg h2]
      exact ⟨h1, by omega, rfl⟩
  exfalso
  rw [if_neg h1] at he hs
  by_cases h2 : (digB (by8 l 0) || (decide (by8 l 0 = 45) && digB (by8 l 1))) = true
  · rw [if_pos h2] at he hs
    unfold numberO at he hs
    simp only at he hs
    split at hs
    · rename_i h; rw [h] at he; cases he
    · cases hs
  · rw [if_neg h2] at he hs
    by_cases h3 : markB (by8 l 0) = true
    · rw [if_pos h3] at hs; cases hs
    · rw [if_neg h3] at he hs
      by_cases h4 : (decide (by8 l 0 = 45) && decide (by8 l 1 = 62)) = true
      · rw [if_pos h4] at hs; cases hs
      · rw [if_neg h4] at he; cases he
theorem named_no {l : List UInt8} {t : Tok} {ts : List Tok} (h : textG l = ⟨t :: ts, 0, 0⟩) (ht : t.sort = 1 ∧ t.text = l ∧ t.place = 0) : nameB l = true := by
  unfold textG at h
  split at h
  · cases h
  by_cases h1 : l.drop (skipN false l) = []
  · rw [allL_end h1] at h
    cases h
    cases ht.1
  by_cases h2 : (tokO (l.drop (skipN false l))).err = 0
  · rw [allL_tok h1 h2] at h
    unfold Got.cons at h
    split at h
    · simp only [Got.mk.injEq, List.cons.injEq] at h
      obtain ⟨⟨h3, -⟩, -⟩ := h
      subst h3
      obtain ⟨a1, a2, a3⟩ := ht
      simp only at a1 a2 a3
      have hk : skipN false l = 0 := by omega
      rw [hk, List.drop_zero] at a1 a2 h2
      obtain ⟨b1, b2, b3⟩ := tok_word h2 a1
      rw [b3] at a2
      simp only at a2
      have b4 : rowN wordB l = l.length := by
        have := congrArg List.length a2
        rw [len_take_row] at this
        exact this
      unfold nameB
      rw [b1, decide_eq_true b4, decide_eq_true (by omega)]
      rfl
    · rename_i h3
      have := congrArg Got.err h
      exact absurd this h3
  · rw [allL_err h1 h2] at h
    cases h

theorem alloc_toks {base w v ts} (h : Toks base w v ts) (o : Obj) : Toks base (w.alloc o) v ts := h.below ((Below.refl _ _).alloc (Nat.le_refl _) _)
theorem text_zero {l : List UInt8} (h : (textG l).err = 0) : (textG l).place = 0 := by
  unfold textG at h ⊢
  split
  · rename_i h1; rw [if_pos h1] at h; cases h
  · rename_i h1; rw [if_neg h1] at h; exact allL_zero h
theorem Toks.shape {base w v ts} (h : Toks base w v ts) : ∃ a cap, v = .slice a ts.length cap := by
  rcases h.2 with ⟨h1, h2⟩ | ⟨g, cap, cur, rfl, -⟩
  · exact ⟨none, 0, by rw [h1, h2]⟩
  · exact ⟨_, cap, rfl⟩
end Go.Proofs.YtpmooflijlkppaaDoor
