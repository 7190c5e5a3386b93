/- Plain lists: tokens that are written are read as these. No program is named here. -/
import Derived.Test.YtendmdokgpgngaaDoorLRight
import Derived.Test.YtendmdokgpgngaaDoorLAheadM
namespace Go.Proofs.YtendmdokgpgngaaDoor
open Go.RowKit

theorem row_allD : ∀ ds : List UInt8, allD ds → rowN digB ds = ds.length
  | [], _ => rfl
  | c :: r, h => by
    have hc := digB_nat.2 (h c (by simp))
    rw [rowN, if_pos hc, row_allD r (fun d hd => h d (by simp [hd])), List.length_cons]
theorem num_one {neg : Bool} {n : Nat} (h0 : 0 < n) (hf : fits8 (signed neg (n : Int)) = true) : numO neg (natS n) = some (signed neg (n : Int)) := by
  obtain ⟨a1, a2, a3⟩ := natS_facts n n (Nat.le_refl _)
  obtain ⟨-, b2⟩ := a3 h0
  unfold numO oneB
  rw [a2, hf, decide_eq_false b2]
  rfl
theorem tok_int (v : Int) (hf : fits8 v = true) : tokO (intS v) = ⟨⟨2, [], v, 0⟩, 0, (intS v).length⟩ := by
  unfold intS
  by_cases h0 : v = 0
  · subst h0; rfl
  rw [if_neg h0]
  have hn : 0 < v.natAbs := by omega
  obtain ⟨a1, a2, a3⟩ := natS_facts v.natAbs v.natAbs (Nat.le_refl _)
  obtain ⟨b1, b2⟩ := a3 hn
  obtain ⟨c, r, hc⟩ := take_first b1
  have hcd : digB (c.toNat : Int) = true := digB_nat.2 (a1 c (by rw [hc]; simp))
  have hlet : letB (c.toNat : Int) = false := by
    have := digB_nat.1 hcd
    unfold letB
    rw [decide_eq_false (by omega)]; rfl
  by_cases h1 : v < 0
  · have hf2 : fits8 (signed true (v.natAbs : Int)) = true := by
      have : signed true (v.natAbs : Int) = v := by show -(v.natAbs : Int) = v; omega
      rw [this]; exact hf
    have hnum := num_one (neg := true) hn hf2
    rw [decide_eq_true h1]
    have e1 : sgn true ++ natS v.natAbs = 45 :: natS v.natAbs := rfl
    rw [e1]
    have x0 : by8 (45 :: natS v.natAbs) 0 = 45 := rfl
    have x1 : by8 (45 :: natS v.natAbs) 1 = (c.toNat : Int) := by rw [hc]; rfl
    have e2 : tokO (45 :: natS v.natAbs) = numberO (45 :: natS v.natAbs) := by
      unfold tokO
      rw [x0, x1, hcd]
      rfl
    rw [e2]
    unfold numberO
    rw [x0]
    simp only [decide_true, if_true, List.drop_succ_cons, List.drop_zero]
    rw [row_allD _ a1, List.take_length, hnum]
    have : signed true (v.natAbs : Int) = v := by show -(v.natAbs : Int) = v; omega
    rw [this, List.length_cons, Nat.add_comm]
  · have hf2 : fits8 (signed false (v.natAbs : Int)) = true := by
      have : signed false (v.natAbs : Int) = v := by show (v.natAbs : Int) = v; omega
      rw [this]; exact hf
    have hnum := num_one (neg := false) hn hf2
    rw [decide_eq_false h1]
    have e1 : sgn false ++ natS v.natAbs = natS v.natAbs := rfl
    rw [e1]
    have x0 : by8 (natS v.natAbs) 0 = (c.toNat : Int) := by rw [hc]; rfl
    have e2 : tokO (natS v.natAbs) = numberO (natS v.natAbs) := by
      unfold tokO
      rw [x0, hlet, hcd]
      rfl
    have x45 : ¬ ((c.toNat : Int) = 45) := by have := digB_nat.1 hcd; omega
    rw [e2]
    unfold numberO
    rw [x0]
    simp only [x45, decide_false, Bool.false_eq_true, if_false]
    rw [row_allD _ a1, List.take_length, hnum]
    have : signed false (v.natAbs : Int) = v := by show (v.natAbs : Int) = v; omega
    rw [this, Nat.zero_add]
/-- A token that may stand in a text, read by itself. -/
theorem tok_right {t : Tok} (h : rightB t = true) (hf : fits8 t.num = true) : tokO (spelt t) = ⟨{ t with place := 0 }, 0, (spelt t).length⟩ := by
  obtain ⟨so, tx, nm, pl⟩ := t
  unfold rightB at h
  unfold spelt
  simp only at h hf ⊢
  by_cases h1 : so = 1
  · subst h1
    rw [if_pos rfl, Bool.and_eq_true, decide_eq_true_iff] at h
    obtain ⟨hn, hm⟩ := h
    subst hn
    rw [if_neg (by decide)]
    unfold nameB at hm
    rw [Bool.and_eq_true, Bool.and_eq_true, decide_eq_true_iff, decide_eq_true_iff] at hm
    obtain ⟨m1, m2, m3⟩ := hm
    unfold tokO
    rw [if_pos m2]
    unfold wordO
    rw [if_neg (by omega), m3, List.take_length]
  rw [if_neg h1] at h
  by_cases h2 : so = 2
  · subst h2
    rw [if_pos rfl, decide_eq_true_iff] at h
    subst h
    rw [if_pos rfl]
    exact tok_int nm hf
  rw [if_neg h2] at h ⊢
  by_cases h3 : so = 3
  · subst h3
    rw [if_pos rfl, Bool.and_eq_true, decide_eq_true_iff] at h
    obtain ⟨hn, hm⟩ := h
    subst hn
    unfold markT at hm
    simp only [Bool.or_eq_true, decide_eq_true_eq] at hm
    rcases hm with ((((h | h) | h) | h) | h) | h <;> subst h <;> rfl
  · rw [if_neg h3] at h; cases h
/-- What is written between two tokens. -/
def gapS (k : Nat) : List UInt8 := if k % 5 = 1 then [10] else if k % 5 = 2 then [9, 32, 13] else if k % 5 = 3 then [35, 120, 32, 45, 49, 32, 35, 10] else [32]
theorem gap_facts (k : Nat) (rest : List UInt8) : skipN false (gapS k ++ rest) = (gapS k).length + skipN false rest ∧ wordB (by8 (gapS k) 0) = false ∧ 0 < (gapS k).length ∧ (gapS k).length ≤ 8 := by
  unfold gapS
  split
  · exact ⟨by simp [skipN, blankB]; omega, rfl, by decide, by decide⟩
  · split
    · exact ⟨by simp [skipN, blankB]; omega, rfl, by decide, by decide⟩
    · split
      · exact ⟨by simp [skipN, blankB]; omega, rfl, by decide, by decide⟩
      · exact ⟨by simp [skipN, blankB]; omega, rfl, by decide, by decide⟩
theorem tok_starts {r : List UInt8} (he : (tokO r).err = 0) : skipN false r = 0 ∧ r ≠ [] := by
  have hs := tok_some he
  have hne : r ≠ [] := by intro e; subst e; have := hs.2.1; simp at this; omega
  refine ⟨?_, hne⟩
  obtain ⟨c, r2, rfl⟩ := take_first hne
  refine skip_none ?_ ?_
  · cases hb : blankB (by8 (c :: r2) 0) with
    | false => rfl
    | true =>
      exfalso
      rw [by8_zero] at hb
      unfold blankB at hb
      simp only [Bool.or_eq_true, decide_eq_true_eq] at hb
      have hx : ∀ x : Int, (x = 32 ∨ x = 9 ∨ x = 13 ∨ x = 10) → letB x = false ∧ digB x = false ∧ markB x = false ∧ ¬ (x = 45) := by
        intro x hx
        rcases hx with rfl | rfl | rfl | rfl <;> exact ⟨rfl, rfl, rfl, by decide⟩
      obtain ⟨a1, a2, a3, a4⟩ := hx (c.toNat : Int) (by omega)
      have e : tokO (c :: r2) = ⟨noTok, 40, 0⟩ := by
        unfold tokO
        rw [by8_zero, a1, a2, a3, decide_eq_false a4]
        rfl
      rw [e] at he; cases he
  · intro e
    rw [by8_zero] at e
    have e2 : tokO (c :: r2) = ⟨noTok, 40, 0⟩ := by
      unfold tokO
      rw [by8_zero, e]
      rfl
    rw [e2] at he; cases he
/-- Tokens with what stands behind each, as a text; and how they should be read. -/
def txt : List (Tok × List UInt8) → List UInt8
  | [] => []
  | x :: r => spelt x.1 ++ (x.2 ++ txt r)
def wantT : Nat → List (Tok × List UInt8) → List Tok
  | p, [] => [⟨0, [], 0, (p : Int)⟩]
  | p, x :: r => { x.1 with place := (p : Int) } :: wantT (p + (spelt x.1).length + x.2.length) r
def okP (x : Tok × List UInt8) : Prop := rightB x.1 = true ∧ fits8 x.1.num = true ∧ ∃ k, x.2 = gapS k
theorem read_back : ∀ (ps : List (Tok × List UInt8)) (p : Nat), (∀ x ∈ ps, okP x) → allL p (txt ps) = ⟨wantT p ps, 0, 0⟩
  | [], p, _ => rfl
  | (t, g) :: r, p, h => by
    obtain ⟨h1, h2, k, h3⟩ := h (t, g) (by simp)
    simp only at h1 h2 h3
    subst h3
    have ht := tok_right h1 h2
    have hg := gap_facts k (txt r)
    have ih := read_back r (p + (spelt t).length + (gapS k).length) (fun x hx => h x (by simp [hx]))
    show allL p (spelt t ++ (gapS k ++ txt r)) = ⟨{ t with place := (p : Int) } :: wantT (p + (spelt t).length + (gapS k).length) r, 0, 0⟩
    have he : (tokO (spelt t)).err = 0 := by rw [ht]
    have hloc : tokO (spelt t ++ (gapS k ++ txt r)) = tokO (spelt t) := by
      refine tok_local he ?_ ?_ ?_
      · rw [ht]; show (spelt t ++ _).take (spelt t).length = (spelt t).take (spelt t).length
        rw [List.take_left, List.take_length]
      · rw [ht]; show (spelt t).length ≤ _; rw [List.length_append]; omega
      · intro _
        rw [ht]
        show by8 (spelt t ++ (gapS k ++ txt r)) (spelt t).length = by8 (spelt t) (spelt t).length ∨ wordB (by8 (spelt t ++ (gapS k ++ txt r)) (spelt t).length) = false
        right
        have e : by8 (spelt t ++ (gapS k ++ txt r)) (spelt t).length = by8 (gapS k) 0 := by
          unfold by8
          rw [List.getD_eq_getElem?_getD, List.getD_eq_getElem?_getD, List.getElem?_append_right (Nat.le_refl _), Nat.sub_self, List.getElem?_append_left hg.2.2.1]
        rw [e]; exact hg.2.1
    have he2 : (tokO (spelt t ++ (gapS k ++ txt r))).err = 0 := by rw [hloc]; exact he
    obtain ⟨s1, s2⟩ := tok_starts he2
    have a := allL_tok (p := p) (l := spelt t ++ (gapS k ++ txt r)) (by rw [s1, List.drop_zero]; exact s2) (by rw [s1, List.drop_zero]; exact he2)
    rw [s1, List.drop_zero, hloc, ht] at a
    simp only [Nat.add_zero, Nat.zero_add] at a
    rw [List.drop_left] at a
    have b := all_skip (p := p + (spelt t).length) (j := (gapS k).length) (l := gapS k ++ txt r) (by rw [List.drop_left, hg.1])
    rw [List.drop_left, ih] at b
    rw [a, b]
    rfl
end Go.Proofs.YtendmdokgpgngaaDoor
