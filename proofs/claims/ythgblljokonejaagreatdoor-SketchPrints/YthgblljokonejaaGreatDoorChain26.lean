/- Texts of one chain, laid one behind the other. -/
import Derived.Test.YthgblljokonejaaGreatDoorChain10
/- Plain lists of bytes: two texts with a line's end between them; what stands ahead of a token or an error. No program is named here. -/
namespace Go.Proofs.YthgblljokonejaaGreatDoor
open Go.RowKit

theorem all_skip {p j : Nat} {l : List UInt8} (h : j + skipN false (l.drop j) = skipN false l) : allL p l = allL (p + j) (l.drop j) := by
  have e : (l.drop j).drop (skipN false (l.drop j)) = l.drop (skipN false l) := by rw [List.drop_drop, h]
  have e2 : p + j + skipN false (l.drop j) = p + skipN false l := by omega
  by_cases h1 : l.drop (skipN false l) = []
  · rw [allL_end h1, allL_end (by rw [e]; exact h1), e2]
  · by_cases h2 : (tokO (l.drop (skipN false l))).err = 0
    · have a1 := allL_tok (p := p) h1 h2
      have a2 := allL_tok (p := p + j) (l := l.drop j) (by rw [e]; exact h1) (by rw [e]; exact h2)
      rw [e, e2] at a2
      have e3 : (l.drop j).drop (skipN false (l.drop j) + (tokO (l.drop (skipN false l))).n) = l.drop (skipN false l + (tokO (l.drop (skipN false l))).n) := by
        rw [List.drop_drop]; congr 1; omega
      rw [e3] at a2
      rw [a1, a2]
    · have a2 := allL_err (p := p + j) (l := l.drop j) (by rw [e]; exact h1) (by rw [e]; exact h2)
      rw [e, e2] at a2
      rw [allL_err h1 h2, a2]
theorem skip_join : ∀ (m : Bool) (x y : List UInt8), x.drop (skipN m x) = [] → skipN m (x ++ 10 :: y) = x.length + 1 + skipN false y
  | m, [], y, _ => by
    cases m <;> simp [skipN, blankB] <;> omega
  | true, c :: r, y, h => by
    by_cases hc : (c.toNat : Int) = 10
    · have e1 : skipN true (c :: r) = skipN false r + 1 := by rw [skipN, if_pos hc]
      have e2 : skipN true (c :: (r ++ 10 :: y)) = skipN false (r ++ 10 :: y) + 1 := by rw [skipN, if_pos hc]
      rw [e1, List.drop_succ_cons] at h
      rw [List.cons_append, e2, skip_join false r y h, List.length_cons]; omega
    · have e1 : skipN true (c :: r) = skipN true r + 1 := by rw [skipN, if_neg hc]
      have e2 : skipN true (c :: (r ++ 10 :: y)) = skipN true (r ++ 10 :: y) + 1 := by rw [skipN, if_neg hc]
      rw [e1, List.drop_succ_cons] at h
      rw [List.cons_append, e2, skip_join true r y h, List.length_cons]; omega
  | false, c :: r, y, h => by
    by_cases hb : blankB (c.toNat : Int) = true
    · have e1 : skipN false (c :: r) = skipN false r + 1 := by rw [skipN, if_pos hb]
      have e2 : skipN false (c :: (r ++ 10 :: y)) = skipN false (r ++ 10 :: y) + 1 := by rw [skipN, if_pos hb]
      rw [e1, List.drop_succ_cons] at h
      rw [List.cons_append, e2, skip_join false r y h, List.length_cons]; omega
    · by_cases hh : (c.toNat : Int) = 35
      · have e1 : skipN false (c :: r) = skipN true r + 1 := by rw [skipN, if_neg hb, if_pos hh]
        have e2 : skipN false (c :: (r ++ 10 :: y)) = skipN true (r ++ 10 :: y) + 1 := by rw [skipN, if_neg hb, if_pos hh]
        rw [e1, List.drop_succ_cons] at h
        rw [List.cons_append, e2, skip_join true r y h, List.length_cons]; omega
      · have e1 : skipN false (c :: r) = 0 := by rw [skipN, if_neg hb, if_neg hh]
        rw [e1] at h; cases h
theorem skip_app : ∀ (m : Bool) (x z : List UInt8), x.drop (skipN m x) ≠ [] → skipN m (x ++ z) = skipN m x
  | m, [], z, h => by simp at h
  | true, c :: r, z, h => by
    by_cases hc : (c.toNat : Int) = 10
    · have e1 : skipN true (c :: r) = skipN false r + 1 := by rw [skipN, if_pos hc]
      have e2 : skipN true (c :: (r ++ z)) = skipN false (r ++ z) + 1 := by rw [skipN, if_pos hc]
      rw [e1, List.drop_succ_cons] at h
      rw [List.cons_append, e2, skip_app false r z h, e1]
    · have e1 : skipN true (c :: r) = skipN true r + 1 := by rw [skipN, if_neg hc]
      have e2 : skipN true (c :: (r ++ z)) = skipN true (r ++ z) + 1 := by rw [skipN, if_neg hc]
      rw [e1, List.drop_succ_cons] at h
      rw [List.cons_append, e2, skip_app true r z h, e1]
  | false, c :: r, z, h => by
    by_cases hb : blankB (c.toNat : Int) = true
    · have e1 : skipN false (c :: r) = skipN false r + 1 := by rw [skipN, if_pos hb]
      have e2 : skipN false (c :: (r ++ z)) = skipN false (r ++ z) + 1 := by rw [skipN, if_pos hb]
      rw [e1, List.drop_succ_cons] at h
      rw [List.cons_append, e2, skip_app false r z h, e1]
    · by_cases hh : (c.toNat : Int) = 35
      · have e1 : skipN false (c :: r) = skipN true r + 1 := by rw [skipN, if_neg hb, if_pos hh]
        have e2 : skipN false (c :: (r ++ z)) = skipN true (r ++ z) + 1 := by rw [skipN, if_neg hb, if_pos hh]
        rw [e1, List.drop_succ_cons] at h
        rw [List.cons_append, e2, skip_app true r z h, e1]
      · have e1 : skipN false (c :: r) = 0 := by rw [skipN, if_neg hb, if_neg hh]
        have e2 : skipN false (c :: (r ++ z)) = 0 := by rw [skipN, if_neg hb, if_neg hh]
        rw [List.cons_append, e1, e2]
theorem rowN_app {p : Int → Bool} (h10 : p 10 = false) (y : List UInt8) : ∀ r : List UInt8, rowN p (r ++ 10 :: y) = rowN p r
  | [] => by
    have : p (((10 : UInt8).toNat : Nat) : Int) = false := h10
    simp only [List.nil_append, rowN]
    rw [this]; rfl
  | c :: r => by
    by_cases h : p (c.toNat : Int) = true
    · simp only [List.cons_append, rowN, if_pos h, rowN_app h10 y r]
    · simp only [List.cons_append, rowN, if_neg h]
theorem take_app {r z : List UInt8} {n : Nat} (h : n ≤ r.length) : (r ++ z).take n = r.take n := List.take_append_of_le_length h
theorem by8_app {r z : List UInt8} {n : Nat} (h : n < r.length) : by8 (r ++ z) n = by8 r n := by
  unfold by8
  rw [List.getD_eq_getElem?_getD, List.getD_eq_getElem?_getD, List.getElem?_append_left h]
theorem number_app {r : List UInt8} (y : List UInt8) (h : r ≠ []) : numberO (r ++ 10 :: y) = numberO r := by
  have h0 : by8 (r ++ 10 :: y) 0 = by8 r 0 := by8_app (List.length_pos_iff.2 h)
  unfold numberO
  rw [h0]
  have hd : (r ++ 10 :: y).drop 1 = r.drop 1 ++ 10 :: y := by
    cases r with
    | nil => exact absurd rfl h
    | cons c r => rfl
  simp only
  cases decide (by8 r 0 = 45)
  · simp only [Bool.false_eq_true, if_false]
    rw [rowN_app rfl, take_app (rowN_le _ _)]
  · simp only [if_true]
    rw [hd, rowN_app rfl, take_app (rowN_le _ _)]
theorem tok_app {r : List UInt8} (y : List UInt8) (h : r ≠ []) : tokO (r ++ 10 :: y) = tokO r := by
  have hl := List.length_pos_iff.2 h
  have h0 : by8 (r ++ 10 :: y) 0 = by8 r 0 := by8_app hl
  have hw : wordO (r ++ 10 :: y) = wordO r := by
    unfold wordO
    rw [rowN_app rfl, take_app (rowN_le _ _)]
  have hm : markO (r ++ 10 :: y) 1 = markO r 1 := by unfold markO; rw [take_app hl]
  have h1 : digB (by8 (r ++ 10 :: y) 1) = digB (by8 r 1) ∧ decide (by8 (r ++ 10 :: y) 1 = 62) = decide (by8 r 1 = 62) ∧ (by8 r 1 = 62 → markO (r ++ 10 :: y) 2 = markO r 2) := by
    match r, h with
    | [c], _ => exact ⟨rfl, rfl, fun e => by cases e⟩
    | c :: d :: r, _ => exact ⟨rfl, rfl, fun _ => rfl⟩
  unfold tokO
  rw [h0, h1.1, h1.2.1, hw, number_app y h, hm]
  by_cases h2 : (decide (by8 r 0 = 45) && decide (by8 r 1 = 62)) = true
  · rw [h1.2.2 (by rw [Bool.and_eq_true, decide_eq_true_iff, decide_eq_true_iff] at h2; exact h2.2)]
  · simp only [h2]
    rfl
/-- Two texts with a line's end between them. -/
theorem all_join (y : List UInt8) : ∀ (n p : Nat) (x : List UInt8), x.length ≤ n →
    ((allL p x).err ≠ 0 ∧ allL p (x ++ 10 :: y) = allL p x) ∨
    (∃ ts, allL p x = ⟨ts ++ [⟨0, [], 0, ((p + x.length : Nat) : Int)⟩], 0, 0⟩ ∧ allL p (x ++ 10 :: y) = (allL (p + x.length + 1) y).app ts)
  | n, p, x, hn => by
    by_cases h1 : x.drop (skipN false x) = []
    · refine Or.inr ⟨[], ?_, ?_⟩
      · have hk : skipN false x = x.length := by
          have a1 := skipN_le false x
          have a2 := congrArg List.length h1
          rw [List.length_drop] at a2
          simp at a2; omega
        rw [allL_end h1, hk]; rfl
      · have e := skip_join false x y h1
        have ed : (x ++ 10 :: y).drop (x.length + 1) = y := by
          rw [← List.drop_drop, List.drop_left]; rfl
        rw [all_skip (p := p) (j := x.length + 1) (l := x ++ 10 :: y) (by rw [ed, e]), ed, app_nil _ (fun h => allL_zero h)]
        rfl
    · have e := skip_app false x (10 :: y) h1
      have hle := skipN_le false x
      have ed : (x ++ 10 :: y).drop (skipN false x) = x.drop (skipN false x) ++ 10 :: y := List.drop_append_of_le_length hle
      have et := tok_app y h1
      have hne : x.drop (skipN false x) ++ 10 :: y ≠ [] := by simp
      by_cases h2 : (tokO (x.drop (skipN false x))).err = 0
      · have a1 := allL_tok (p := p) h1 h2
        have a2 := allL_tok (p := p) (l := x ++ 10 :: y) (by rw [e, ed]; exact hne) (by rw [e, ed, et]; exact h2)
        have h3 := tok_some h2
        have hlen : (x.drop (skipN false x)).length = x.length - skipN false x := List.length_drop
        rw [e, ed, et] at a2
        have ed2 : (x ++ 10 :: y).drop (skipN false x + (tokO (x.drop (skipN false x))).n) = x.drop (skipN false x + (tokO (x.drop (skipN false x))).n) ++ 10 :: y := List.drop_append_of_le_length (by omega)
        rw [ed2] at a2
        match n, hn with
        | 0, hn => exact absurd (by rw [List.eq_nil_of_length_eq_zero (Nat.le_zero.1 hn)]; rfl) h1
        | n + 1, hn =>
          rcases all_join y n (p + skipN false x + (tokO (x.drop (skipN false x))).n) (x.drop (skipN false x + (tokO (x.drop (skipN false x))).n)) (by rw [List.length_drop]; omega) with ⟨b1, b2⟩ | ⟨ts, b1, b2⟩
          · refine Or.inl ?_
            rw [a1, a2, b2]
            unfold Got.cons
            rw [if_neg b1]
            exact ⟨b1, rfl⟩
          · refine Or.inr ⟨{ (tokO (x.drop (skipN false x))).tok with place := ((p + skipN false x : Nat) : Int) } :: ts, ?_, ?_⟩
            · rw [a1, b1]
              have : p + skipN false x + (tokO (x.drop (skipN false x))).n + (x.drop (skipN false x + (tokO (x.drop (skipN false x))).n)).length = p + x.length := by rw [List.length_drop]; omega
              rw [this]
              rfl
            · rw [a2, b2]
              have : p + skipN false x + (tokO (x.drop (skipN false x))).n + (x.drop (skipN false x + (tokO (x.drop (skipN false x))).n)).length = p + x.length := by rw [List.length_drop]; omega
              rw [this]
              generalize allL (p + x.length + 1) y = g
              unfold Got.app Got.cons
              by_cases hg : g.err = 0
              · simp [hg]
              · simp [hg]
      · refine Or.inl ?_
        have a1 := allL_err (p := p) h1 h2
        have a2 := allL_err (p := p) (l := x ++ 10 :: y) (by rw [e, ed]; exact hne) (by rw [e, ed, et]; exact h2)
        rw [e, ed, et] at a2
        rw [a2, a1]
        exact ⟨h2, rfl⟩
/-- A text's tokens further on. -/
def Tok.by (k : Nat) (t : Tok) : Tok := { t with place := t.place + (k : Int) }
theorem all_move (k : Nat) : ∀ (n p : Nat) (x : List UInt8), x.length ≤ n → allL (p + k) x = ⟨(allL p x).toks.map (Tok.by k), (allL p x).err, if (allL p x).err = 0 then 0 else (allL p x).place + (k : Int)⟩
  | n, p, x, hn => by
    have ep : ((p + k + skipN false x : Nat) : Int) = ((p + skipN false x : Nat) : Int) + (k : Int) := by omega
    by_cases h1 : x.drop (skipN false x) = []
    · rw [allL_end h1, allL_end h1, ep]; rfl
    · by_cases h2 : (tokO (x.drop (skipN false x))).err = 0
      · match n, hn with
        | 0, hn => exact absurd (by rw [List.eq_nil_of_length_eq_zero (Nat.le_zero.1 hn)]; rfl) h1
        | n + 1, hn =>
          have h3 := tok_some h2
          have hlen : (x.drop (skipN false x)).length = x.length - skipN false x := List.length_drop
          have ih := all_move k n (p + skipN false x + (tokO (x.drop (skipN false x))).n) (x.drop (skipN false x + (tokO (x.drop (skipN false x))).n)) (by rw [List.length_drop]; omega)
          have ea : p + k + skipN false x + (tokO (x.drop (skipN false x))).n = p + skipN false x + (tokO (x.drop (skipN false x))).n + k := by omega
          rw [allL_tok (p := p + k) h1 h2, allL_tok (p := p) h1 h2, ep, ea, ih]
          generalize allL (p + skipN false x + (tokO (x.drop (skipN false x))).n) (x.drop (skipN false x + (tokO (x.drop (skipN false x))).n)) = g
          unfold Got.cons
          by_cases hg : g.err = 0
          · simp [hg, Tok.by]
          · simp [hg]
      · rw [allL_err h1 h2, allL_err h1 h2, ep, if_neg h2]; rfl
theorem all_err_nil : ∀ (n p : Nat) (x : List UInt8), x.length ≤ n → (allL p x).err ≠ 0 → (allL p x).toks = [] ∧ (p : Int) ≤ (allL p x).place ∧ (allL p x).place < ((p + x.length : Nat) : Int)
  | n, p, x, hn, he => by
    have hle := skipN_le false x
    by_cases h1 : x.drop (skipN false x) = []
    · rw [allL_end h1] at he; exact absurd rfl he
    · have hlt : skipN false x < x.length := by
        rcases Nat.lt_or_ge (skipN false x) x.length with h | h
        · exact h
        · exact absurd (List.drop_eq_nil_of_le h) h1
      by_cases h2 : (tokO (x.drop (skipN false x))).err = 0
      · match n, hn with
        | 0, hn => exact absurd (by rw [List.eq_nil_of_length_eq_zero (Nat.le_zero.1 hn)]; rfl) h1
        | n + 1, hn =>
          have h3 := tok_some h2
          have hlen : (x.drop (skipN false x)).length = x.length - skipN false x := List.length_drop
          have ih := all_err_nil n (p + skipN false x + (tokO (x.drop (skipN false x))).n) (x.drop (skipN false x + (tokO (x.drop (skipN false x))).n)) (by rw [List.length_drop]; omega)
          rw [List.length_drop] at ih
          rw [allL_tok h1 h2] at he ⊢
          generalize allL (p + skipN false x + (tokO (x.drop (skipN false x))).n) (x.drop (skipN false x + (tokO (x.drop (skipN false x))).n)) = g at *
          unfold Got.cons at he ⊢
          by_cases hg : g.err = 0
          · rw [if_pos hg] at he; exact absurd rfl he
          · rw [if_neg hg]
            have := ih hg
            exact ⟨this.1, by omega, by omega⟩
      · rw [allL_err h1 h2]
        exact ⟨rfl, by show (p : Int) ≤ ((p + skipN false x : Nat) : Int); omega, by show ((p + skipN false x : Nat) : Int) < _; omega⟩
theorem all_places : ∀ (n p : Nat) (x : List UInt8), x.length ≤ n → ∀ t ∈ (allL p x).toks, (p : Int) ≤ t.place ∧ t.place ≤ ((p + x.length : Nat) : Int)
  | n, p, x, hn, t, ht => by
    have hle := skipN_le false x
    by_cases h1 : x.drop (skipN false x) = []
    · rw [allL_end h1] at ht
      simp only [List.mem_cons, List.not_mem_nil, or_false] at ht
      subst ht
      exact ⟨by show (p : Int) ≤ ((p + skipN false x : Nat) : Int); omega, by show ((p + skipN false x : Nat) : Int) ≤ _; omega⟩
    · by_cases h2 : (tokO (x.drop (skipN false x))).err = 0
      · match n, hn with
        | 0, hn => exact absurd (by rw [List.eq_nil_of_length_eq_zero (Nat.le_zero.1 hn)]; rfl) h1
        | n + 1, hn =>
          have h3 := tok_some h2
          have hlen : (x.drop (skipN false x)).length = x.length - skipN false x := List.length_drop
          have ih := all_places n (p + skipN false x + (tokO (x.drop (skipN false x))).n) (x.drop (skipN false x + (tokO (x.drop (skipN false x))).n)) (by rw [List.length_drop]; omega) t
          rw [List.length_drop] at ih
          rw [allL_tok h1 h2] at ht
          generalize allL (p + skipN false x + (tokO (x.drop (skipN false x))).n) (x.drop (skipN false x + (tokO (x.drop (skipN false x))).n)) = g at *
          unfold Got.cons at ht
          by_cases hg : g.err = 0
          · rw [if_pos hg] at ht
            rcases List.mem_cons.1 ht with rfl | ht
            · exact ⟨by show (p : Int) ≤ ((p + skipN false x : Nat) : Int); omega, by show ((p + skipN false x : Nat) : Int) ≤ _; omega⟩
            · have := ih ht
              exact ⟨by omega, by omega⟩
          · rw [if_neg hg] at ht
            have := ih ht
            exact ⟨by omega, by omega⟩
      · rw [allL_err h1 h2] at ht
        cases ht
theorem all_some : ∀ (n p : Nat) (x : List UInt8), x.length ≤ n → (allL p x).err = 0 → (allL p x).toks.length ≤ x.length + 1 ∧ (allL p x).toks ≠ []
  | n, p, x, hn, he => by
    by_cases h1 : x.drop (skipN false x) = []
    · rw [allL_end h1]; exact ⟨by simp, by simp⟩
    · by_cases h2 : (tokO (x.drop (skipN false x))).err = 0
      · match n, hn with
        | 0, hn => exact absurd (by rw [List.eq_nil_of_length_eq_zero (Nat.le_zero.1 hn)]; rfl) h1
        | n + 1, hn =>
          have h3 := tok_some h2
          have hlen : (x.drop (skipN false x)).length = x.length - skipN false x := List.length_drop
          have ih := all_some n (p + skipN false x + (tokO (x.drop (skipN false x))).n) (x.drop (skipN false x + (tokO (x.drop (skipN false x))).n)) (by rw [List.length_drop]; omega)
          rw [List.length_drop] at ih
          rw [allL_tok h1 h2] at he ⊢
          generalize allL (p + skipN false x + (tokO (x.drop (skipN false x))).n) (x.drop (skipN false x + (tokO (x.drop (skipN false x))).n)) = g at *
          unfold Got.cons at he ⊢
          by_cases hg : g.err = 0
          · rw [if_pos hg]
            have := (ih hg).1
            exact ⟨by show (_ :: g.toks).length ≤ _; simp; omega, by simp⟩
          · rw [if_neg hg] at he; exact absurd he hg
      · rw [allL_err h1 h2] at he; exact absurd he h2
end Go.Proofs.YthgblljokonejaaGreatDoor

/- Plain lists of bytes: what stands ahead of a token, or of an error. No program is named here. -/
namespace Go.Proofs.YthgblljokonejaaGreatDoor
open Go.RowKit

theorem by8_take {l : List UInt8} {n k : Nat} (h : k < n) : by8 (l.take n) k = by8 l k := by
  unfold by8
  rw [List.getD_eq_getElem?_getD, List.getD_eq_getElem?_getD, List.getElem?_take_of_lt h]
theorem row_same {p : Int → Bool} (h0 : p 0 = false) (hw : ∀ x, wordB x = false → p x = false) {r r' : List UInt8} (ht : r'.take (rowN p r) = r.take (rowN p r)) (hn : rowN p r ≤ r'.length) (hx : rowN p r < r'.length → by8 r' (rowN p r) = by8 r (rowN p r) ∨ wordB (by8 r' (rowN p r)) = false) : rowN p r' = rowN p r := by
  symm
  refine rowN_least p r' (rowN p r) hn (fun j hj => ?_) (fun h => ?_)
  · rw [← by8_take (l := r') hj, ht, by8_take hj]
    exact rowN_in p r j hj
  · rcases hx h with e | e
    · rw [e]
      rcases Nat.lt_or_ge (rowN p r) r.length with h1 | h1
      · exact rowN_out p r h1
      · rw [by8_end h1]; exact h0
    · exact hw _ e
theorem dig_word (x : Int) (h : wordB x = false) : digB x = false := by
  unfold wordB at h
  rw [Bool.or_eq_false_iff, Bool.or_eq_false_iff] at h
  exact h.1.2
theorem drop_take_one (l : List UInt8) (n : Nat) : (l.take (1 + n)).drop 1 = (l.drop 1).take n := by
  rw [Nat.add_comm]
  cases l with
  | nil => simp
  | cons c r => rfl
theorem tok_local {r r' : List UInt8} (he : (tokO r).err = 0) (ht : r'.take (tokO r).n = r.take (tokO r).n) (hn : (tokO r).n ≤ r'.length) (hx : (tokO r).n < r'.length → by8 r' (tokO r).n = by8 r (tokO r).n ∨ wordB (by8 r' (tokO r).n) = false) : tokO r' = tokO r := by
  obtain ⟨hs1, hs2, -⟩ := tok_some he
  have h0 : by8 r' 0 = by8 r 0 := by rw [← by8_take (l := r') hs1, ht, by8_take hs1]
  by_cases h1 : letB (by8 r 0) = true
  · have e : tokO r = wordO r := by unfold tokO; rw [if_pos h1]
    have e' : tokO r' = wordO r' := by unfold tokO; rw [h0, if_pos h1]
    rw [e] at he ht hn hx ⊢
    rw [e']
    unfold wordO at he ht hn hx ⊢
    by_cases h2 : 16 < rowN wordB r
    · rw [if_pos h2] at he; cases he
    · rw [if_neg h2] at ht hn hx ⊢
      simp only at ht hn hx
      have hr := row_same rfl (fun x h => h) ht hn hx
      rw [hr, if_neg h2, ht]
  by_cases h2 : (digB (by8 r 0) || (decide (by8 r 0 = 45) && digB (by8 r 1))) = true
  · have e : tokO r = numberO r := by unfold tokO; rw [if_neg h1, if_pos h2]
    rw [e] at he ht hn hx hs1 hs2 ⊢
    unfold numberO at he ht hn hx hs1 hs2
    by_cases h3 : by8 r 0 = 45
    · simp only [h3, decide_true, if_true] at he ht hn hx hs1 hs2
      have hz : ∃ v, numO true ((r.drop 1).take (rowN digB (r.drop 1))) = some v := by
        generalize numO true ((r.drop 1).take (rowN digB (r.drop 1))) = z at he
        cases z with
        | none => cases he
        | some v => exact ⟨v, rfl⟩
      obtain ⟨v, hv⟩ := hz
      rw [hv] at ht hn hx hs1 hs2
      simp only at ht hn hx hs1 hs2
      have hd1 : digB (by8 r 1) = true := by
        rw [h3] at h2
        have : digB 45 = false := rfl
        rw [this, decide_eq_true rfl, Bool.false_or, Bool.true_and] at h2
        exact h2
      have hpos : 0 < rowN digB (r.drop 1) := row_pos0 (by rw [by8_drop]; exact hd1) (by rw [by8_drop]; exact digB_ne0 hd1)
      have h1' : by8 r' 1 = by8 r 1 := by
        have hk : 1 < 1 + rowN digB (r.drop 1) := by omega
        rw [← by8_take (l := r') hk, ht, by8_take hk]
      have ht2 : (r'.drop 1).take (rowN digB (r.drop 1)) = (r.drop 1).take (rowN digB (r.drop 1)) := by rw [← drop_take_one, ← drop_take_one, ht]
      have hr := row_same (p := digB) rfl dig_word (r := r.drop 1) (r' := r'.drop 1) ht2 (by rw [List.length_drop]; omega) (fun h => by rw [by8_drop, by8_drop]; exact hx (by rw [List.length_drop] at h; omega))
      have e' : tokO r' = numberO r' := by unfold tokO; rw [h0, h1', if_neg h1, if_pos h2]
      rw [e']
      unfold numberO
      rw [h0]
      simp only [h3, decide_true, if_true]
      rw [hr, ht2]
    · simp only [h3, decide_false, Bool.false_eq_true, if_false] at he ht hn hx hs1 hs2
      have hz : ∃ v, numO false (r.take (rowN digB r)) = some v := by
        generalize numO false (r.take (rowN digB r)) = z at he
        cases z with
        | none => cases he
        | some v => exact ⟨v, rfl⟩
      obtain ⟨v, hv⟩ := hz
      rw [hv] at ht hn hx hs1 hs2
      simp only [Nat.zero_add] at ht hn hx hs1 hs2
      have hd0 : digB (by8 r 0) = true := by
        rw [decide_eq_false h3, Bool.false_and, Bool.or_false] at h2; exact h2
      have hr := row_same (p := digB) rfl dig_word ht hn hx
      have e' : tokO r' = numberO r' := by unfold tokO; rw [h0, if_neg h1, if_pos (by rw [hd0]; rfl)]
      rw [e']
      unfold numberO
      rw [h0]
      simp only [h3, decide_false, Bool.false_eq_true, if_false]
      rw [hr, ht]
  have h2' : (digB (by8 r 0) || (decide (by8 r 0 = 45) && digB (by8 r 1))) = false := by simpa using h2
  have hd0 : digB (by8 r 0) = false := by rw [Bool.or_eq_false_iff] at h2'; exact h2'.1
  by_cases h3 : markB (by8 r 0) = true
  · have h45 : ¬ (by8 r 0 = 45) := by intro e; rw [e] at h3; cases h3
    have e : tokO r = markO r 1 := by unfold tokO; rw [if_neg h1, if_neg h2, if_pos h3]
    have e' : tokO r' = markO r' 1 := by unfold tokO; rw [h0, if_neg h1, if_neg (by rw [hd0, decide_eq_false h45, Bool.false_and]; decide), if_pos h3]
    rw [e] at ht ⊢
    rw [e']
    unfold markO at ht ⊢
    simp only at ht
    rw [ht]
  by_cases h4 : (decide (by8 r 0 = 45) && decide (by8 r 1 = 62)) = true
  · have e : tokO r = markO r 2 := by unfold tokO; rw [if_neg h1, if_neg h2, if_neg h3, if_pos h4]
    rw [e] at ht hs1 ⊢
    unfold markO at ht hs1 ⊢
    simp only at ht hs1
    have h1' : by8 r' 1 = by8 r 1 := by
      have hk : 1 < 2 := by decide
      rw [← by8_take (l := r') hk, ht, by8_take hk]
    have e' : tokO r' = markO r' 2 := by unfold tokO; rw [h0, h1', if_neg h1, if_neg h2, if_neg h3, if_pos h4]
    rw [e']
    unfold markO
    rw [ht]
  · exfalso
    have e : tokO r = ⟨noTok, 40, 0⟩ := by unfold tokO; rw [if_neg h1, if_neg h2, if_neg h3, if_neg h4]
    rw [e] at he; cases he
theorem skip_take : ∀ (m : Bool) (x : List UInt8) (j : Nat), skipN m x ≤ j → skipN m (x.take j) = skipN m x
  | m, [], j, _ => by simp
  | m, c :: r, 0, h => by
    have : skipN m (c :: r) = 0 := by omega
    rw [this, List.take_zero]
    cases m <;> rfl
  | true, c :: r, j + 1, h => by
    by_cases hc : (c.toNat : Int) = 10
    · have e1 : ∀ r, skipN true (c :: r) = skipN false r + 1 := fun r => by rw [skipN, if_pos hc]
      rw [e1] at h
      rw [List.take_succ_cons, e1, e1, skip_take false r j (by omega)]
    · have e1 : ∀ r, skipN true (c :: r) = skipN true r + 1 := fun r => by rw [skipN, if_neg hc]
      rw [e1] at h
      rw [List.take_succ_cons, e1, e1, skip_take true r j (by omega)]
  | false, c :: r, j + 1, h => by
    by_cases hb : blankB (c.toNat : Int) = true
    · have e1 : ∀ r, skipN false (c :: r) = skipN false r + 1 := fun r => by rw [skipN, if_pos hb]
      rw [e1] at h
      rw [List.take_succ_cons, e1, e1, skip_take false r j (by omega)]
    · by_cases hh : (c.toNat : Int) = 35
      · have e1 : ∀ r, skipN false (c :: r) = skipN true r + 1 := fun r => by rw [skipN, if_neg hb, if_pos hh]
        rw [e1] at h
        rw [List.take_succ_cons, e1, e1, skip_take true r j (by omega)]
      · have e1 : ∀ r, skipN false (c :: r) = 0 := fun r => by rw [skipN, if_neg hb, if_neg hh]
        rw [List.take_succ_cons, e1, e1]
theorem cut_end (p : Nat) (x : List UInt8) : allL p (x.take (skipN false x)) = ⟨[⟨0, [], 0, ((p + skipN false x : Nat) : Int)⟩], 0, 0⟩ := by
  have h := skip_take false x (skipN false x) (Nat.le_refl _)
  rw [allL_end (by rw [h]; exact List.drop_eq_nil_of_le (List.length_take_le _ _)), h]
theorem cut_tok (p j : Nat) {x : List UInt8} (_h1 : x.drop (skipN false x) ≠ []) (h2 : (tokO (x.drop (skipN false x))).err = 0) :
    allL p (x.take (skipN false x + (tokO (x.drop (skipN false x))).n + j)) = (allL (p + skipN false x + (tokO (x.drop (skipN false x))).n) ((x.drop (skipN false x + (tokO (x.drop (skipN false x))).n)).take j)).cons { (tokO (x.drop (skipN false x))).tok with place := ((p + skipN false x : Nat) : Int) } := by
  obtain ⟨hs1, hs2, -⟩ := tok_some h2
  have hlen : (x.drop (skipN false x)).length = x.length - skipN false x := List.length_drop
  have hk := skip_take false x (skipN false x + (tokO (x.drop (skipN false x))).n + j) (by omega)
  have hd : (x.take (skipN false x + (tokO (x.drop (skipN false x))).n + j)).drop (skipN false x) = (x.drop (skipN false x)).take ((tokO (x.drop (skipN false x))).n + j) := by
    rw [List.drop_take]; congr 1; omega
  have hd2 : (x.take (skipN false x + (tokO (x.drop (skipN false x))).n + j)).drop (skipN false x + (tokO (x.drop (skipN false x))).n) = (x.drop (skipN false x + (tokO (x.drop (skipN false x))).n)).take j := by
    rw [List.drop_take]; congr 1; omega
  have hlt : ((x.drop (skipN false x)).take ((tokO (x.drop (skipN false x))).n + j)).length = min ((tokO (x.drop (skipN false x))).n + j) (x.length - skipN false x) := by rw [List.length_take, hlen]
  have ht : tokO ((x.drop (skipN false x)).take ((tokO (x.drop (skipN false x))).n + j)) = tokO (x.drop (skipN false x)) := by
    refine tok_local h2 ?_ ?_ ?_
    · rw [List.take_take]; congr 1; omega
    · rw [hlt]; omega
    · intro h
      rw [hlt] at h
      exact Or.inl (by8_take (by omega))
  have hne : (x.drop (skipN false x)).take ((tokO (x.drop (skipN false x))).n + j) ≠ [] := by
    intro e
    have := congrArg List.length e
    rw [hlt] at this
    simp at this
    omega
  have a := allL_tok (p := p) (l := x.take (skipN false x + (tokO (x.drop (skipN false x))).n + j)) (by rw [hk, hd]; exact hne) (by rw [hk, hd, ht]; exact h2)
  rw [hk, hd, ht, hd2] at a
  exact a
/-- What stands ahead of a token has the tokens ahead of it. -/
theorem all_ahead : ∀ (n p : Nat) (x : List UInt8), x.length ≤ n → (allL p x).err = 0 → ∀ (i q : Nat) (t : Tok), (allL p x).toks[i]? = some t → t.place = ((p + q : Nat) : Int) →
    allL p (x.take q) = ⟨(allL p x).toks.take i ++ [⟨0, [], 0, ((p + q : Nat) : Int)⟩], 0, 0⟩
  | n, p, x, hn, he, i, q, t, hi, hq => by
    have hle := skipN_le false x
    by_cases h1 : x.drop (skipN false x) = []
    · rw [allL_end h1] at hi ⊢
      match i, hi with
      | 0, hi =>
        simp only [List.getElem?_cons_zero, Option.some.injEq] at hi
        subst hi
        simp only at hq
        have : q = skipN false x := by omega
        subst this
        exact cut_end p x
      | i + 1, hi => simp at hi
    · by_cases h2 : (tokO (x.drop (skipN false x))).err = 0
      · match n, hn with
        | 0, hn => exact absurd (by rw [List.eq_nil_of_length_eq_zero (Nat.le_zero.1 hn)]; rfl) h1
        | n + 1, hn =>
          obtain ⟨hs1, hs2, -⟩ := tok_some h2
          have hlen : (x.drop (skipN false x)).length = x.length - skipN false x := List.length_drop
          have ha := allL_tok (p := p) h1 h2
          have hcut := fun j => cut_tok p j h1 h2
          have ih := all_ahead n (p + skipN false x + (tokO (x.drop (skipN false x))).n) (x.drop (skipN false x + (tokO (x.drop (skipN false x))).n)) (by rw [List.length_drop]; omega)
          have hpl := all_places (x.drop (skipN false x + (tokO (x.drop (skipN false x))).n)).length (p + skipN false x + (tokO (x.drop (skipN false x))).n) _ (Nat.le_refl _)
          rw [ha] at he hi ⊢
          match i, hi with
          | 0, hi =>
            have hq2 : q = skipN false x := by
              generalize allL (p + skipN false x + (tokO (x.drop (skipN false x))).n) (x.drop (skipN false x + (tokO (x.drop (skipN false x))).n)) = g at he hi
              unfold Got.cons at he hi
              by_cases hg : g.err = 0
              · rw [if_pos hg] at hi
                simp only [List.getElem?_cons_zero, Option.some.injEq] at hi
                subst hi
                simp only at hq
                omega
              · rw [if_neg hg] at he; exact absurd he hg
            subst hq2
            rw [List.take_zero]
            exact cut_end p x
          | i + 1, hi =>
            have hg : (allL (p + skipN false x + (tokO (x.drop (skipN false x))).n) (x.drop (skipN false x + (tokO (x.drop (skipN false x))).n))).err = 0 := by
              unfold Got.cons at he
              by_cases hg : (allL (p + skipN false x + (tokO (x.drop (skipN false x))).n) (x.drop (skipN false x + (tokO (x.drop (skipN false x))).n))).err = 0
              · exact hg
              · rw [if_neg hg] at he; exact absurd he hg
            have hi2 : (allL (p + skipN false x + (tokO (x.drop (skipN false x))).n) (x.drop (skipN false x + (tokO (x.drop (skipN false x))).n))).toks[i]? = some t := by
              unfold Got.cons at hi
              rw [if_pos hg] at hi
              simpa using hi
            have hm := hpl t (List.mem_of_getElem? hi2)
            have hj : ∃ j, q = skipN false x + (tokO (x.drop (skipN false x))).n + j := ⟨q - (skipN false x + (tokO (x.drop (skipN false x))).n), by omega⟩
            obtain ⟨j, rfl⟩ := hj
            have hr := ih hg i j t hi2 (by rw [hq]; congr 1; omega)
            rw [hcut j, hr]
            generalize allL (p + skipN false x + (tokO (x.drop (skipN false x))).n) (x.drop (skipN false x + (tokO (x.drop (skipN false x))).n)) = g at hg
            have e9 : ((p + skipN false x + (tokO (x.drop (skipN false x))).n + j : Nat) : Int) = ((p + (skipN false x + (tokO (x.drop (skipN false x))).n + j) : Nat) : Int) := by congr 1; omega
            rw [e9]
            unfold Got.cons
            rw [if_pos hg]
            rfl
      · rw [allL_err h1 h2] at he; exact absurd he h2
/-- What stands ahead of an error is read. -/
theorem all_ahead_err : ∀ (n p : Nat) (x : List UInt8), x.length ≤ n → (allL p x).err ≠ 0 → ∀ q : Nat, (allL p x).place = ((p + q : Nat) : Int) → (allL p (x.take q)).err = 0
  | n, p, x, hn, he, q, hq => by
    by_cases h1 : x.drop (skipN false x) = []
    · rw [allL_end h1] at he; exact absurd rfl he
    · by_cases h2 : (tokO (x.drop (skipN false x))).err = 0
      · match n, hn with
        | 0, hn => exact absurd (by rw [List.eq_nil_of_length_eq_zero (Nat.le_zero.1 hn)]; rfl) h1
        | n + 1, hn =>
          obtain ⟨hs1, hs2, -⟩ := tok_some h2
          have hlen : (x.drop (skipN false x)).length = x.length - skipN false x := List.length_drop
          have ha := allL_tok (p := p) h1 h2
          have hcut := fun j => cut_tok p j h1 h2
          have ih := all_ahead_err n (p + skipN false x + (tokO (x.drop (skipN false x))).n) (x.drop (skipN false x + (tokO (x.drop (skipN false x))).n)) (by rw [List.length_drop]; omega)
          have hpl := all_err_nil (x.drop (skipN false x + (tokO (x.drop (skipN false x))).n)).length (p + skipN false x + (tokO (x.drop (skipN false x))).n) _ (Nat.le_refl _)
          rw [ha] at he hq
          have hg : (allL (p + skipN false x + (tokO (x.drop (skipN false x))).n) (x.drop (skipN false x + (tokO (x.drop (skipN false x))).n))).err ≠ 0 := by
            intro hg
            unfold Got.cons at he
            rw [if_pos hg] at he
            exact he rfl
          unfold Got.cons at hq
          rw [if_neg hg] at hq
          have hm := hpl hg
          have hj : ∃ j, q = skipN false x + (tokO (x.drop (skipN false x))).n + j := ⟨q - (skipN false x + (tokO (x.drop (skipN false x))).n), by omega⟩
          obtain ⟨j, rfl⟩ := hj
          have hr := ih hg j (by rw [hq]; congr 1; omega)
          rw [hcut j]
          unfold Got.cons
          rw [if_pos hr]
      · rw [allL_err h1 h2] at hq
        simp only at hq
        have : q = skipN false x := by omega
        subst this
        rw [cut_end]
end Go.Proofs.YthgblljokonejaaGreatDoor
