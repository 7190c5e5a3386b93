/- Plain lists of bytes: two texts with a line's end between them; what stands ahead of a token or an error. No program is named here. -/
import Derived.Test.YtendmdokgpgngaaDoorLAll
namespace Go.Proofs.YtendmdokgpgngaaDoor
open Go.RowKit

theorem all_skip {p j : Nat} {l : List UInt8} (h : j + skipN false (l.drop j) = skipN false l) : allL p l = allL (p + j) (l.drop j) := by
  have e : (l.drop j).drop (skipN false (l.drop j)) = l.drop (skipN false l) := by rw [List.drop_drop, h]
  have e2 : p + j + skipN false (l.drop j) = p + skipN false l := by omega
  by_cases h1 : l.drop (skipN false l) = []
  · rw [allL_end h1, allL_end (by rw [e]; exact h1), e2]
  · by_cases h2 : (tokO (l.drop (skipN false l))).err = 0
    · have a1 := allL_tok (p := p) h1 h2
      have a2 := allL_tok (p := p + j) (l := l.drop j) (by rw [e]; exact h1) (by rw [e]; exact h2)
      rw [e, e2] at a2
      have e3 : (l.drop j).drop (skipN false (l.drop j) + (tokO (l.drop (skipN false l))).n) = l.drop (skipN false l + (tokO (l.drop (skipN false l))).n) := by
        rw [List.drop_drop]; congr 1; omega
      rw [e3] at a2
      rw [a1, a2]
    · have a2 := allL_err (p := p + j) (l := l.drop j) (by rw [e]; exact h1) (by rw [e]; exact h2)
      rw [e, e2] at a2
      rw [allL_err h1 h2, a2]
theorem skip_join : ∀ (m : Bool) (x y : List UInt8), x.drop (skipN m x) = [] → skipN m (x ++ 10 :: y) = x.length + 1 + skipN false y
  | m, [], y, _ => by
    cases m <;> simp [skipN, blankB] <;> omega
  | true, c :: r, y, h => by
    by_cases hc : (c.toNat : Int) = 10
    · have e1 : skipN true (c :: r) = skipN false r + 1 := by rw [skipN, if_pos hc]
      have e2 : skipN true (c :: (r ++ 10 :: y)) = skipN false (r ++ 10 :: y) + 1 := by rw [skipN, if_pos hc]
      rw [e1, List.drop_succ_cons] at h
      rw [List.cons_append, e2, skip_join false r y h, List.length_cons]; omega
    · have e1 : skipN true (c :: r) = skipN true r + 1 := by rw [skipN, if_neg hc]
      have e2 : skipN true (c :: (r ++ 10 :: y)) = skipN true (r ++ 10 :: y) + 1 := by rw [skipN, if_neg hc]
      rw [e1, List.drop_succ_cons] at h
      rw [List.cons_append, e2, skip_join true r y h, List.length_cons]; omega
  | false, c :: r, y, h => by
    by_cases hb : blankB (c.toNat : Int) = true
    · have e1 : skipN false (c :: r) = skipN false r + 1 := by rw [skipN, if_pos hb]
      have e2 : skipN false (c :: (r ++ 10 :: y)) = skipN false (r ++ 10 :: y) + 1 := by rw [skipN, if_pos hb]
      rw [e1, List.drop_succ_cons] at h
      rw [List.cons_append, e2, skip_join false r y h, List.length_cons]; omega
    · by_cases hh : (c.toNat : Int) = 35
      · have e1 : skipN false (c :: r) = skipN true r + 1 := by rw [skipN, if_neg hb, if_pos hh]
        have e2 : skipN false (c :: (r ++ 10 :: y)) = skipN true (r ++ 10 :: y) + 1 := by rw [skipN, if_neg hb, if_pos hh]
        rw [e1, List.drop_succ_cons] at h
        rw [List.cons_append, e2, skip_join true r y h, List.length_cons]; omega
      · have e1 : skipN false (c :: r) = 0 := by rw [skipN, if_neg hb, if_neg hh]
        rw [e1] at h; cases h
theorem skip_app : ∀ (m : Bool) (x z : List UInt8), x.drop (skipN m x) ≠ [] → skipN m (x ++ z) = skipN m x
  | m, [], z, h => by simp at h
  | true, c :: r, z, h => by
    by_cases hc : (c.toNat : Int) = 10
    · have e1 : skipN true (c :: r) = skipN false r + 1 := by rw [skipN, if_pos hc]
      have e2 : skipN true (c :: (r ++ z)) = skipN false (r ++ z) + 1 := by rw [skipN, if_pos hc]
      rw [e1, List.drop_succ_cons] at h
      rw [List.cons_append, e2, skip_app false r z h, e1]
    · have e1 : skipN true (c :: r) = skipN true r + 1 := by rw [skipN, if_neg hc]
      have e2 : skipN true (c :: (r ++ z)) = skipN true (r ++ z) + 1 := by rw [skipN, if_neg hc]
      rw [e1, List.drop_succ_cons] at h
      rw [List.cons_append, e2, skip_app true r z h, e1]
  | false, c :: r, z, h => by
    by_cases hb : blankB (c.toNat : Int) = true
    · have e1 : skipN false (c :: r) = skipN false r + 1 := by rw [skipN, if_pos hb]
      have e2 : skipN false (c :: (r ++ z)) = skipN false (r ++ z) + 1 := by rw [skipN, if_pos hb]
      rw [e1, List.drop_succ_cons] at h
      rw [List.cons_append, e2, skip_app false r z h, e1]
    · by_cases hh : (c.toNat : Int) = 35
      · have e1 : skipN false (c :: r) = skipN true r + 1 := by rw [skipN, if_neg hb, if_pos hh]
        have e2 : skipN false (c :: (r ++ z)) = skipN true (r ++ z) + 1 := by rw [skipN, if_neg hb, if_pos hh]
        rw [e1, List.drop_succ_cons] at h
        rw [List.cons_append, e2, skip_app true r z h, e1]
      · have e1 : skipN false (c :: r) = 0 := by rw [skipN, if_neg hb, if_neg hh]
        have e2 : skipN false (c :: (r ++ z)) = 0 := by rw [skipN, if_neg hb, if_neg hh]
        rw [List.cons_append, e1, e2]
theorem rowN_app {p : Int → Bool} (h10 : p 10 = false) (y : List UInt8) : ∀ r : List UInt8, rowN p (r ++ 10 :: y) = rowN p r
  | [] => by
    have : p (((10 : UInt8).toNat : Nat) : Int) = false := h10
    simp only [List.nil_append, rowN]
    rw [this]; rfl
  | c :: r => by
    by_cases h : p (c.toNat : Int) = true
    · simp only [List.cons_append, rowN, if_pos h, rowN_app h10 y r]
    · simp only [List.cons_append, rowN, if_neg h]
theorem take_app {r z : List UInt8} {n : Nat} (h : n ≤ r.length) : (r ++ z).take n = r.take n := List.take_append_of_le_length h
theorem by8_app {r z : List UInt8} {n : Nat} (h : n < r.length) : by8 (r ++ z) n = by8 r n := by
  unfold by8
  rw [List.getD_eq_getElem?_getD, List.getD_eq_getElem?_getD, List.getElem?_append_left h]
theorem number_app {r : List UInt8} (y : List UInt8) (h : r ≠ []) : numberO (r ++ 10 :: y) = numberO r := by
  have h0 : by8 (r ++ 10 :: y) 0 = by8 r 0 := by8_app (List.length_pos_iff.2 h)
  unfold numberO
  rw [h0]
  have hd : (r ++ 10 :: y).drop 1 = r.drop 1 ++ 10 :: y := by
    cases r with
    | nil => exact absurd rfl h
    | cons c r => rfl
  simp only
  cases decide (by8 r 0 = 45)
  · simp only [Bool.false_eq_true, if_false]
    rw [rowN_app rfl, take_app (rowN_le _ _)]
  · simp only [if_true]
    rw [hd, rowN_app rfl, take_app (rowN_le _ _)]
theorem tok_app {r : List UInt8} (y : List UInt8) (h : r ≠ []) : tokO (r ++ 10 :: y) = tokO r := by
  have hl := List.length_pos_iff.2 h
  have h0 : by8 (r ++ 10 :: y) 0 = by8 r 0 := by8_app hl
  have hw : wordO (r ++ 10 :: y) = wordO r := by
    unfold wordO
    rw [rowN_app rfl, take_app (rowN_le _ _)]
  have hm : markO (r ++ 10 :: y) 1 = markO r 1 := by unfold markO; rw [take_app hl]
  have h1 : digB (by8 (r ++ 10 :: y) 1) = digB (by8 r 1) ∧ decide (by8 (r ++ 10 :: y) 1 = 62) = decide (by8 r 1 = 62) ∧ (by8 r 1 = 62 → markO (r ++ 10 :: y) 2 = markO r 2) := by
    match r, h with
    | [c], _ => exact ⟨rfl, rfl, fun e => by cases e⟩
    | c :: d :: r, _ => exact ⟨rfl, rfl, fun _ => rfl⟩
  unfold tokO
  rw [h0, h1.1, h1.2.1, hw, number_app y h, hm]
  by_cases h2 : (decide (by8 r 0 = 45) && decide (by8 r 1 = 62)) = true
  · rw [h1.2.2 (by rw [Bool.and_eq_true, decide_eq_true_iff, decide_eq_true_iff] at h2; exact h2.2)]
  · simp only [h2]
    rfl
/-- Two texts with a line's end between them. -/
theorem all_join (y : List UInt8) : ∀ (n p : Nat) (x : List UInt8), x.length ≤ n →
    ((allL p x).err ≠ 0 ∧ allL p (x ++ 10 :: y) = allL p x) ∨
    (∃ ts, allL p x = ⟨ts ++ [⟨0, [], 0, ((p + x.length : Nat) : Int)⟩], 0, 0⟩ ∧ allL p (x ++ 10 :: y) = (allL (p + x.length + 1) y).app ts)
  | n, p, x, hn => by
    by_cases h1 : x.drop (skipN false x) = []
    · refine Or.inr ⟨[], ?_, ?_⟩
      · have hk : skipN false x = x.length := by
          have a1 := skipN_le false x
          have a2 := congrArg List.length h1
          rw [List.length_drop] at a2
          simp at a2; omega
        rw [allL_end h1, hk]; rfl
      · have e := skip_join false x y h1
        have ed : (x ++ 10 :: y).drop (x.length + 1) = y := by
          rw [← List.drop_drop, List.drop_left]; rfl
        rw [all_skip (p := p) (j := x.length + 1) (l := x ++ 10 :: y) (by rw [ed, e]), ed, app_nil _ (fun h => allL_zero h)]
        rfl
    · have e := skip_app false x (10 :: y) h1
      have hle := skipN_le false x
      have ed : (x ++ 10 :: y).drop (skipN false x) = x.drop (skipN false x) ++ 10 :: y := List.drop_append_of_le_length hle
      have et := tok_app y h1
      have hne : x.drop (skipN false x) ++ 10 :: y ≠ [] := by simp
      by_cases h2 : (tokO (x.drop (skipN false x))).err = 0
      · have a1 := allL_tok (p := p) h1 h2
        have a2 := allL_tok (p := p) (l := x ++ 10 :: y) (by rw [e, ed]; exact hne) (by rw [e, ed, et]; exact h2)
        have h3 := tok_some h2
        have hlen : (x.drop (skipN false x)).length = x.length - skipN false x := List.length_drop
        rw [e, ed, et] at a2
        have ed2 : (x ++ 10 :: y).drop (skipN false x + (tokO (x.drop (skipN false x))).n) = x.drop (skipN false x + (tokO (x.drop (skipN false x))).n) ++ 10 :: y := List.drop_append_of_le_length (by omega)
        rw [ed2] at a2
        match n, hn with
        | 0, hn => exact absurd (by rw [List.eq_nil_of_length_eq_zero (Nat.le_zero.1 hn)]; rfl) h1
        | n + 1, hn =>
          rcases all_join y n (p + skipN false x + (tokO (x.drop (skipN false x))).n) (x.drop (skipN false x + (tokO (x.drop (skipN false x))).n)) (by rw [List.length_drop]; omega) with ⟨b1, b2⟩ | ⟨ts, b1, b2⟩
          · refine Or.inl ?_
            rw [a1, a2, b2]
            unfold Got.cons
            rw [if_neg b1]
            exact ⟨b1, rfl⟩
          · refine Or.inr ⟨{ (tokO (x.drop (skipN false x))).tok with place := ((p + skipN false x : Nat) : Int) } :: ts, ?_, ?_⟩
            · rw [a1, b1]
              have : p + skipN false x + (tokO (x.drop (skipN false x))).n + (x.drop (skipN false x + (tokO (x.drop (skipN false x))).n)).length = p + x.length := by rw [List.length_drop]; omega
              rw [this]
              rfl
            · rw [a2, b2]
              have : p + skipN false x + (tokO (x.drop (skipN false x))).n + (x.drop (skipN false x + (tokO (x.drop (skipN false x))).n)).length = p + x.length := by rw [List.length_drop]; omega
              rw [this]
              generalize allL (p + x.length + 1) y = g
              unfold Got.app Got.cons
              by_cases hg : g.err = 0
              · simp [hg]
              · simp [hg]
      · refine Or.inl ?_
        have a1 := allL_err (p := p) h1 h2
        have a2 := allL_err (p := p) (l := x ++ 10 :: y) (by rw [e, ed]; exact hne) (by rw [e, ed, et]; exact h2)
        rw [e, ed, et] at a2
        rw [a2, a1]
        exact ⟨h2, rfl⟩
/-- A text's tokens further on. -/
def Tok.by (k : Nat) (t : Tok) : Tok := { t with place := t.place + (k : Int) }
theorem all_move (k : Nat) : ∀ (n p : Nat) (x : List UInt8), x.length ≤ n → allL (p + k) x = ⟨(allL p x).toks.map (Tok.by k), (allL p x).err, if (allL p x).err = 0 then 0 else (allL p x).place + (k : Int)⟩
  | n, p, x, hn => by
    have ep : ((p + k + skipN false x : Nat) : Int) = ((p + skipN false x : Nat) : Int) + (k : Int) := by omega
    by_cases h1 : x.drop (skipN false x) = []
    · rw [allL_end h1, allL_end h1, ep]; rfl
    · by_cases h2 : (tokO (x.drop (skipN false x))).err = 0
      · match n, hn with
        | 0, hn => exact absurd (by rw [List.eq_nil_of_length_eq_zero (Nat.le_zero.1 hn)]; rfl) h1
        | n + 1, hn =>
          have h3 := tok_some h2
          have hlen : (x.drop (skipN false x)).length = x.length - skipN false x := List.length_drop
          have ih := all_move k n (p + skipN false x + (tokO (x.drop (skipN false x))).n) (x.drop (skipN false x + (tokO (x.drop (skipN false x))).n)) (by rw [List.length_drop]; omega)
          have ea : p + k + skipN false x + (tokO (x.drop (skipN false x))).n = p + skipN false x + (tokO (x.drop (skipN false x))).n + k := by omega
          rw [allL_tok (p := p + k) h1 h2, allL_tok (p := p) h1 h2, ep, ea, ih]
          generalize allL (p + skipN false x + (tokO (x.drop (skipN false x))).n) (x.drop (skipN false x + (tokO (x.drop (skipN false x))).n)) = g
          unfold Got.cons
          by_cases hg : g.err = 0
          · simp [hg, Tok.by]
          · simp [hg]
      · rw [allL_err h1 h2, allL_err h1 h2, ep, if_neg h2]; rfl
theorem all_err_nil : ∀ (n p : Nat) (x : List UInt8), x.length ≤ n → (allL p x).err ≠ 0 → (allL p x).toks = [] ∧ (p : Int) ≤ (allL p x).place ∧ (allL p x).place < ((p + x.length : Nat) : Int)
  | n, p, x, hn, he => by
    have hle := skipN_le false x
    by_cases h1 : x.drop (skipN false x) = []
    · rw [allL_end h1] at he; exact absurd rfl he
    · have hlt : skipN false x < x.length := by
        rcases Nat.lt_or_ge (skipN false x) x.length with h | h
        · exact h
        · exact absurd (List.drop_eq_nil_of_le h) h1
      by_cases h2 : (tokO (x.drop (skipN false x))).err = 0
      · match n, hn with
        | 0, hn => exact absurd (by rw [List.eq_nil_of_length_eq_zero (Nat.le_zero.1 hn)]; rfl) h1
        | n + 1, hn =>
          have h3 := tok_some h2
          have hlen : (x.drop (skipN false x)).length = x.length - skipN false x := List.length_drop
          have ih := all_err_nil n (p + skipN false x + (tokO (x.drop (skipN false x))).n) (x.drop (skipN false x + (tokO (x.drop (skipN false x))).n)) (by rw [List.length_drop]; omega)
          rw [List.length_drop] at ih
          rw [allL_tok h1 h2] at he ⊢
          generalize allL (p + skipN false x + (tokO (x.drop (skipN false x))).n) (x.drop (skipN false x + (tokO (x.drop (skipN false x))).n)) = g at *
          unfold Got.cons at he ⊢
          by_cases hg : g.err = 0
          · rw [if_pos hg] at he; exact absurd rfl he
          · rw [if_neg hg]
            have := ih hg
            exact ⟨this.1, by omega, by omega⟩
      · rw [allL_err h1 h2]
        exact ⟨rfl, by show (p : Int) ≤ ((p + skipN false x : Nat) : Int); omega, by show ((p + skipN false x : Nat) : Int) < _; omega⟩
theorem all_places : ∀ (n p : Nat) (x : List UInt8), x.length ≤ n → ∀ t ∈ (allL p x).toks, (p : Int) ≤ t.place ∧ t.place ≤ ((p + x.length : Nat) : Int)
  | n, p, x, hn, t, ht => by
    have hle := skipN_le false x
    by_cases h1 : x.drop (skipN false x) = []
    · rw [allL_end h1] at ht
      simp only [List.mem_cons, List.not_mem_nil, or_false] at ht
      subst ht
      exact ⟨by show (p : Int) ≤ ((p + skipN false x : Nat) : Int); omega, by show ((p + skipN false x : Nat) : Int) ≤ _; omega⟩
    · by_cases h2 : (tokO (x.drop (skipN false x))).err = 0
      · match n, hn with
        | 0, hn => exact absurd (by rw [List.eq_nil_of_length_eq_zero (Nat.le_zero.1 hn)]; rfl) h1
        | n + 1, hn =>
          have h3 := tok_some h2
          have hlen : (x.drop (skipN false x)).length = x.length - skipN false x := List.length_drop
          have ih := all_places n (p + skipN false x + (tokO (x.drop (skipN false x))).n) (x.drop (skipN false x + (tokO (x.drop (skipN false x))).n)) (by rw [List.length_drop]; omega) t
          rw [List.length_drop] at ih
          rw [allL_tok h1 h2] at ht
          generalize allL (p + skipN false x + (tokO (x.drop (skipN false x))).n) (x.drop (skipN false x + (tokO (x.drop (skipN false x))).n)) = g at *
          unfold Got.cons at ht
          by_cases hg : g.err = 0
          · rw [if_pos hg] at ht
            rcases List.mem_cons.1 ht with rfl | ht
            · exact ⟨by show (p : Int) ≤ ((p + skipN false x : Nat) : Int); omega, by show ((p + skipN false x : Nat) : Int) ≤ _; omega⟩
            · have := ih ht
              exact ⟨by omega, by omega⟩
          · rw [if_neg hg] at ht
            have := ih ht
            exact ⟨by omega, by omega⟩
      · rw [allL_err h1 h2] at ht
        cases ht
theorem all_some : ∀ (n p : Nat) (x : List UInt8), x.length ≤ n → (allL p x).err = 0 → (allL p x).toks.length ≤ x.length + 1 ∧ (allL p x).toks ≠ []
  | n, p, x, hn, he => by
    by_cases h1 : x.drop (skipN false x) = []
    · rw [allL_end h1]; exact ⟨by simp, by simp⟩
    · by_cases h2 : (tokO (x.drop (skipN false x))).err = 0
      · match n, hn with
        | 0, hn => exact absurd (by rw [List.eq_nil_of_length_eq_zero (Nat.le_zero.1 hn)]; rfl) h1
        | n + 1, hn =>
          have h3 := tok_some h2
          have hlen : (x.drop (skipN false x)).length = x.length - skipN false x := List.length_drop
          have ih := all_some n (p + skipN false x + (tokO (x.drop (skipN false x))).n) (x.drop (skipN false x + (tokO (x.drop (skipN false x))).n)) (by rw [List.length_drop]; omega)
          rw [List.length_drop] at ih
          rw [allL_tok h1 h2] at he ⊢
          generalize allL (p + skipN false x + (tokO (x.drop (skipN false x))).n) (x.drop (skipN false x + (tokO (x.drop (skipN false x))).n)) = g at *
          unfold Got.cons at he ⊢
          by_cases hg : g.err = 0
          · rw [if_pos hg]
            have := (ih hg).1
            exact ⟨by show (_ :: g.toks).length ≤ _; simp; omega, by simp⟩
          · rw [if_neg hg] at he; exact absurd he hg
      · rw [allL_err h1 h2] at he; exact absurd he h2
end Go.Proofs.YtendmdokgpgngaaDoor
