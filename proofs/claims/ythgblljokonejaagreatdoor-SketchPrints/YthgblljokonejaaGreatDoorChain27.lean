/- Texts of one chain, laid one behind the other. -/
import Derived.Test.YthgblljokonejaaGreatDoorChain25
import Derived.Test.YthgblljokonejaaGreatDoorChain26
import Derived.Test.YthgblljokonejaaGreatDoorChain11
/- Plain lists: tokens that are written are read as these. No program is named here. -/
namespace Go.Proofs.YthgblljokonejaaGreatDoor
open Go.RowKit

theorem row_allD : ∀ ds : List UInt8, allD ds → rowN digB ds = ds.length
  | [], _ => rfl
  | c :: r, h => by
    have hc := digB_nat.2 (h c (by simp))
    rw [rowN, if_pos hc, row_allD r (fun d hd => h d (by simp [hd])), List.length_cons]
theorem num_one {neg : Bool} {n : Nat} (h0 : 0 < n) (hf : fits8 (signed neg (n : Int)) = true) : numO neg (natS n) = some (signed neg (n : Int)) := by
  obtain ⟨a1, a2, a3⟩ := natS_facts n n (Nat.le_refl _)
  obtain ⟨-, b2⟩ := a3 h0
  unfold numO oneB
  rw [a2, hf, decide_eq_false b2]
  rfl
theorem tok_int (v : Int) (hf : fits8 v = true) : tokO (intS v) = ⟨⟨2, [], v, 0⟩, 0, (intS v).length⟩ := by
  unfold intS
  by_cases h0 : v = 0
  · subst h0; rfl
  rw [if_neg h0]
  have hn : 0 < v.natAbs := by omega
  obtain ⟨a1, a2, a3⟩ := natS_facts v.natAbs v.natAbs (Nat.le_refl _)
  obtain ⟨b1, b2⟩ := a3 hn
  obtain ⟨c, r, hc⟩ := take_first b1
  have hcd : digB (c.toNat : Int) = true := digB_nat.2 (a1 c (by rw [hc]; simp))
  have hlet : letB (c.toNat : Int) = false := by
    have := digB_nat.1 hcd
    unfold letB
    rw [decide_eq_false (by omega)]; rfl
  by_cases h1 : v < 0
  · have hf2 : fits8 (signed true (v.natAbs : Int)) = true := by
      have : signed true (v.natAbs : Int) = v := by show -(v.natAbs : Int) = v; omega
      rw [this]; exact hf
    have hnum := num_one (neg := true) hn hf2
    rw [decide_eq_true h1]
    have e1 : sgn true ++ natS v.natAbs = 45 :: natS v.natAbs := rfl
    rw [e1]
    have x0 : by8 (45 :: natS v.natAbs) 0 = 45 := rfl
    have x1 : by8 (45 :: natS v.natAbs) 1 = (c.toNat : Int) := by rw [hc]; rfl
    have e2 : tokO (45 :: natS v.natAbs) = numberO (45 :: natS v.natAbs) := by
      unfold tokO
      rw [x0, x1, hcd]
      rfl
    rw [e2]
    unfold numberO
    rw [x0]
    simp only [decide_true, if_true, List.drop_succ_cons, List.drop_zero]
    rw [row_allD _ a1, List.take_length, hnum]
    have : signed true (v.natAbs : Int) = v := by show -(v.natAbs : Int) = v; omega
    rw [this, List.length_cons, Nat.add_comm]
  · have hf2 : fits8 (signed false (v.natAbs : Int)) = true := by
      have : signed false (v.natAbs : Int) = v := by show (v.natAbs : Int) = v; omega
      rw [this]; exact hf
    have hnum := num_one (neg := false) hn hf2
    rw [decide_eq_false h1]
    have e1 : sgn false ++ natS v.natAbs = natS v.natAbs := rfl
    rw [e1]
    have x0 : by8 (natS v.natAbs) 0 = (c.toNat : Int) := by rw [hc]; rfl
    have e2 : tokO (natS v.natAbs) = numberO (natS v.natAbs) := by
      unfold tokO
      rw [x0, hlet, hcd]
      rfl
    have x45 : ¬ ((c.toNat : Int) = 45) := by have := digB_nat.1 hcd; omega
    rw [e2]
    unfold numberO
    rw [x0]
    simp only [x45, decide_false, Bool.false_eq_true, if_false]
    rw [row_allD _ a1, List.take_length, hnum]
    have : signed false (v.natAbs : Int) = v := by show (v.natAbs : Int) = v; omega
    rw [this, Nat.zero_add]
/-- A token that may stand in a text, read by itself. -/
theorem tok_right {t : Tok} (h : rightB t = true) (hf : fits8 t.num = true) : tokO (spelt t) = ⟨{ t with place := 0 }, 0, (spelt t).length⟩ := by
  obtain ⟨so, tx, nm, pl⟩ := t
  unfold rightB at h
  unfold spelt
  simp only at h hf ⊢
  by_cases h1 : so = 1
  · subst h1
    rw [if_pos rfl, Bool.and_eq_true, decide_eq_true_iff] at h
    obtain ⟨hn, hm⟩ := h
    subst hn
    rw [if_neg (by decide)]
    unfold nameB at hm
    rw [Bool.and_eq_true, Bool.and_eq_true, decide_eq_true_iff, decide_eq_true_iff] at hm
    obtain ⟨m1, m2, m3⟩ := hm
    unfold tokO
    rw [if_pos m2]
    unfold wordO
    rw [if_neg (by omega), m3, List.take_length]
  rw [if_neg h1] at h
  by_cases h2 : so = 2
  · subst h2
    rw [if_pos rfl, decide_eq_true_iff] at h
    subst h
    rw [if_pos rfl]
    exact tok_int nm hf
  rw [if_neg h2] at h ⊢
  by_cases h3 : so = 3
  · subst h3
    rw [if_pos rfl, Bool.and_eq_true, decide_eq_true_iff] at h
    obtain ⟨hn, hm⟩ := h
    subst hn
    unfold markT at hm
    simp only [Bool.or_eq_true, decide_eq_true_eq] at hm
    rcases hm with ((((h | h) | h) | h) | h) | h <;> subst h <;> rfl
  · rw [if_neg h3] at h; cases h
/-- What is written between two tokens. -/
def gapS (k : Nat) : List UInt8 := if k % 5 = 1 then [10] else if k % 5 = 2 then [9, 32, 13] else if k % 5 = 3 then [35, 120, 32, 45, 49, 32, 35, 10] else [32]
theorem gap_facts (k : Nat) (rest : List UInt8) : skipN false (gapS k ++ rest) = (gapS k).length + skipN false rest ∧ wordB (by8 (gapS k) 0) = false ∧ 0 < (gapS k).length ∧ (gapS k).length ≤ 8 := by
  unfold gapS
  split
  · exact ⟨by simp [skipN, blankB]; omega, rfl, by decide, by decide⟩
  · split
    · exact ⟨by simp [skipN, blankB]; omega, rfl, by decide, by decide⟩
    · split
      · exact ⟨by simp [skipN, blankB]; omega, rfl, by decide, by decide⟩
      · exact ⟨by simp [skipN, blankB]; omega, rfl, by decide, by decide⟩
theorem tok_starts {r : List UInt8} (he : (tokO r).err = 0) : skipN false r = 0 ∧ r ≠ [] := by
  have hs := tok_some he
  have hne : r ≠ [] := by intro e; subst e; have := hs.2.1; simp at this; omega
  refine ⟨?_, hne⟩
  obtain ⟨c, r2, rfl⟩ := take_first hne
  refine skip_none ?_ ?_
  · cases hb : blankB (by8 (c :: r2) 0) with
    | false => rfl
    | true =>
      exfalso
      rw [by8_zero] at hb
      unfold blankB at hb
      simp only [Bool.or_eq_true, decide_eq_true_eq] at hb
      have hx : ∀ x : Int, (x = 32 ∨ x = 9 ∨ x = 13 ∨ x = 10) → letB x = false ∧ digB x = false ∧ markB x = false ∧ ¬ (x = 45) := by
        intro x hx
        rcases hx with rfl | rfl | rfl | rfl <;> exact ⟨rfl, rfl, rfl, by decide⟩
      obtain ⟨a1, a2, a3, a4⟩ := hx (c.toNat : Int) (by omega)
      have e : tokO (c :: r2) = ⟨noTok, 40, 0⟩ := by
        unfold tokO
        rw [by8_zero, a1, a2, a3, decide_eq_false a4]
        rfl
      rw [e] at he; cases he
  · intro e
    rw [by8_zero] at e
    have e2 : tokO (c :: r2) = ⟨noTok, 40, 0⟩ := by
      unfold tokO
      rw [by8_zero, e]
      rfl
    rw [e2] at he; cases he
/-- Tokens with what stands behind each, as a text; and how they should be read. -/
def txt : List (Tok × List UInt8) → List UInt8
  | [] => []
  | x :: r => spelt x.1 ++ (x.2 ++ txt r)
def wantT : Nat → List (Tok × List UInt8) → List Tok
  | p, [] => [⟨0, [], 0, (p : Int)⟩]
  | p, x :: r => { x.1 with place := (p : Int) } :: wantT (p + (spelt x.1).length + x.2.length) r
def okP (x : Tok × List UInt8) : Prop := rightB x.1 = true ∧ fits8 x.1.num = true ∧ ∃ k, x.2 = gapS k
theorem read_back : ∀ (ps : List (Tok × List UInt8)) (p : Nat), (∀ x ∈ ps, okP x) → allL p (txt ps) = ⟨wantT p ps, 0, 0⟩
  | [], p, _ => rfl
  | (t, g) :: r, p, h => by
    obtain ⟨h1, h2, k, h3⟩ := h (t, g) (by simp)
    simp only at h1 h2 h3
    subst h3
    have ht := tok_right h1 h2
    have hg := gap_facts k (txt r)
    have ih := read_back r (p + (spelt t).length + (gapS k).length) (fun x hx => h x (by simp [hx]))
    show allL p (spelt t ++ (gapS k ++ txt r)) = ⟨{ t with place := (p : Int) } :: wantT (p + (spelt t).length + (gapS k).length) r, 0, 0⟩
    have he : (tokO (spelt t)).err = 0 := by rw [ht]
    have hloc : tokO (spelt t ++ (gapS k ++ txt r)) = tokO (spelt t) := by
      refine tok_local he ?_ ?_ ?_
      · rw [ht]; show (spelt t ++ _).take (spelt t).length = (spelt t).take (spelt t).length
        rw [List.take_left, List.take_length]
      · rw [ht]; show (spelt t).length ≤ _; rw [List.length_append]; omega
      · intro _
        rw [ht]
        show by8 (spelt t ++ (gapS k ++ txt r)) (spelt t).length = by8 (spelt t) (spelt t).length ∨ wordB (by8 (spelt t ++ (gapS k ++ txt r)) (spelt t).length) = false
        right
        have e : by8 (spelt t ++ (gapS k ++ txt r)) (spelt t).length = by8 (gapS k) 0 := by
          unfold by8
          rw [List.getD_eq_getElem?_getD, List.getD_eq_getElem?_getD, List.getElem?_append_right (Nat.le_refl _), Nat.sub_self, List.getElem?_append_left hg.2.2.1]
        rw [e]; exact hg.2.1
    have he2 : (tokO (spelt t ++ (gapS k ++ txt r))).err = 0 := by rw [hloc]; exact he
    obtain ⟨s1, s2⟩ := tok_starts he2
    have a := allL_tok (p := p) (l := spelt t ++ (gapS k ++ txt r)) (by rw [s1, List.drop_zero]; exact s2) (by rw [s1, List.drop_zero]; exact he2)
    rw [s1, List.drop_zero, hloc, ht] at a
    simp only [Nat.add_zero, Nat.zero_add] at a
    rw [List.drop_left] at a
    have b := all_skip (p := p + (spelt t).length) (j := (gapS k).length) (l := gapS k ++ txt r) (by rw [List.drop_left, hg.1])
    rw [List.drop_left, ih] at b
    rw [a, b]
    rfl
end Go.Proofs.YthgblljokonejaaGreatDoor

/- Plain lists: pieces of a text, read; where tokens stand does not count. No program is named here. -/
namespace Go.Proofs.YthgblljokonejaaGreatDoor
open Go.RowKit

/-! ### Pieces: a token, or none, and blanks behind it -/
abbrev Pc := Option Tok × List UInt8
def speltP : Option Tok → List UInt8
  | none => []
  | some t => spelt t
def txtP : List Pc → List UInt8
  | [] => []
  | x :: r => speltP x.1 ++ (x.2 ++ txtP r)
def wantP : Nat → List Pc → List Tok
  | p, [] => [⟨0, [], 0, (p : Int)⟩]
  | p, (none, g) :: r => wantP (p + g.length) r
  | p, (some t, g) :: r => { t with place := (p : Int) } :: wantP (p + (spelt t).length + g.length) r
def free (l : List UInt8) : Prop := wordB (by8 l 0) = false
def okPc : List Pc → Prop
  | [] => True
  | (none, g) :: r => (∀ c ∈ g, blankB (c.toNat : Int) = true) ∧ okPc r
  | (some t, g) :: r => (rightB t = true ∧ fits8 t.num = true ∧ (t.sort = 3 ∨ free (g ++ txtP r))) ∧ (∀ c ∈ g, blankB (c.toNat : Int) = true) ∧ okPc r
theorem txtP_app : ∀ (a b : List Pc), txtP (a ++ b) = txtP a ++ txtP b
  | [], b => rfl
  | x :: a, b => by
    show speltP x.1 ++ (x.2 ++ txtP (a ++ b)) = _ ++ (_ ++ _) ++ _
    rw [txtP_app a b]
    simp [List.append_assoc]
theorem skip_blanks : ∀ (g rest : List UInt8), (∀ c ∈ g, blankB (c.toNat : Int) = true) → skipN false (g ++ rest) = g.length + skipN false rest
  | [], rest, _ => by simp
  | c :: g, rest, h => by
    have hc := h c (by simp)
    have ih := skip_blanks g rest (fun d hd => h d (by simp [hd]))
    rw [List.cons_append, List.length_cons]
    show skipN false (c :: (g ++ rest)) = _
    simp only [skipN, hc, if_true]
    omega
theorem tok_mark {t : Tok} (h : rightB t = true) (h3 : t.sort = 3) (z : List UInt8) : tokO (spelt t ++ z) = tokO (spelt t) := by
  obtain ⟨so, tx, nm, pl⟩ := t
  simp only at h3
  subst h3
  unfold rightB at h
  simp only at h
  rw [if_neg (by decide), if_neg (by decide), if_pos trivial, Bool.and_eq_true] at h
  have hm := h.2
  unfold markT at hm
  simp only [Bool.or_eq_true, decide_eq_true_eq] at hm
  unfold spelt
  simp only
  rw [if_neg (by decide)]
  rcases hm with ((((h | h) | h) | h) | h) | h <;> subst h <;> rfl
theorem read_pieces : ∀ (ps : List Pc) (p : Nat), okPc ps → allL p (txtP ps) = ⟨wantP p ps, 0, 0⟩
  | [], p, _ => rfl
  | (none, g) :: r, p, h => by
    obtain ⟨h1, h2⟩ := h
    have ih := read_pieces r (p + g.length) h2
    show allL p ([] ++ (g ++ txtP r)) = ⟨wantP (p + g.length) r, 0, 0⟩
    rw [List.nil_append]
    have b := all_skip (p := p) (j := g.length) (l := g ++ txtP r) (by rw [List.drop_left, skip_blanks g _ h1])
    rw [List.drop_left, ih] at b
    exact b
  | (some t, g) :: r, p, h => by
    obtain ⟨⟨h1, h2, h3⟩, h4, h5⟩ := h
    have ht := tok_right h1 h2
    have ih := read_pieces r (p + (spelt t).length + g.length) h5
    show allL p (spelt t ++ (g ++ txtP r)) = ⟨{ t with place := (p : Int) } :: wantP (p + (spelt t).length + g.length) r, 0, 0⟩
    have he : (tokO (spelt t)).err = 0 := by rw [ht]
    have hloc : tokO (spelt t ++ (g ++ txtP r)) = tokO (spelt t) := by
      rcases h3 with h3 | h3
      · exact tok_mark h1 h3 _
      refine tok_local he ?_ ?_ ?_
      · rw [ht]; show (spelt t ++ _).take (spelt t).length = (spelt t).take (spelt t).length
        rw [List.take_left, List.take_length]
      · rw [ht]; show (spelt t).length ≤ _; rw [List.length_append]; omega
      · intro _
        rw [ht]
        show by8 (spelt t ++ (g ++ txtP r)) (spelt t).length = by8 (spelt t) (spelt t).length ∨ wordB (by8 (spelt t ++ (g ++ txtP r)) (spelt t).length) = false
        right
        have e : by8 (spelt t ++ (g ++ txtP r)) (spelt t).length = by8 (g ++ txtP r) 0 := by
          unfold by8
          rw [List.getD_eq_getElem?_getD, List.getD_eq_getElem?_getD, List.getElem?_append_right (Nat.le_refl _), Nat.sub_self]
        rw [e]; exact h3
    have he2 : (tokO (spelt t ++ (g ++ txtP r))).err = 0 := by rw [hloc]; exact he
    obtain ⟨s1, s2⟩ := tok_starts he2
    have a := allL_tok (p := p) (l := spelt t ++ (g ++ txtP r)) (by rw [s1, List.drop_zero]; exact s2) (by rw [s1, List.drop_zero]; exact he2)
    rw [s1, List.drop_zero, hloc, ht] at a
    simp only [Nat.add_zero, Nat.zero_add] at a
    rw [List.drop_left] at a
    have b := all_skip (p := p + (spelt t).length) (j := g.length) (l := g ++ txtP r) (by rw [List.drop_left, skip_blanks g _ h4])
    rw [List.drop_left, ih] at b
    rw [a, b]
    rfl
/-! ### Tokens without their places -/
def bareT (t : Tok) : Tok := { t with place := 0 }
theorem bareT_text (t : Tok) : (bareT t).text = t.text := rfl
theorem bareT_sort (t : Tok) : (bareT t).sort = t.sort := rfl
def bareP (p : Plc) : Plc := { p with place := 0 }
def bareI (x : Itm) : Itm := ⟨x.kind, x.name, x.tag, x.nums, bareP x.frm, bareP x.to, 0⟩
def bareS (s : Skt) : Skt := ⟨s.name, s.items.map bareI⟩
def toksP (ps : List Pc) : List Tok := ps.filterMap (·.1)
theorem want_bare : ∀ (ps : List Pc) (p : Nat), (wantP p ps).map bareT = (toksP ps).map bareT ++ [noTok]
  | [], p => rfl
  | (none, g) :: r, p => by
    show (wantP (p + g.length) r).map bareT = _
    rw [want_bare r]
    rfl
  | (some t, g) :: r, p => by
    show bareT { t with place := (p : Int) } :: (wantP (p + (spelt t).length + g.length) r).map bareT = _
    rw [want_bare r]
    rfl
theorem nth_bare (ts : List Tok) (i : Nat) : nthT (ts.map bareT) i = bareT (nthT ts i) := by
  unfold nthT
  rw [List.getD_eq_getElem?_getD, List.getD_eq_getElem?_getD, List.getElem?_map]
  cases ts[i]? <;> rfl
def bareR {α : Type} (f : α → α) (r : Rd α) : Rd α := (r.1.map f, r.2)
theorem then_bare {α β : Type} (f : α → α) (g : β → β) (r : Rd α) (k k' : α → Nat → Rd β) (h : ∀ a j, k' (f a) j = bareR g (k a j)) : andThen (bareR f r) k' = bareR g (andThen r k) := by
  obtain ⟨_ | a, j⟩ := r
  · rfl
  · exact h a j
theorem then_bare' {α β : Type} (g : β → β) (r : Rd α) (k k' : α → Nat → Rd β) (h : ∀ a j, k' a j = bareR g (k a j)) : andThen r k' = bareR g (andThen r k) := by
  obtain ⟨_ | a, j⟩ := r
  · rfl
  · exact h a j
theorem textR_bare (ts : List Tok) (x : List UInt8) (i : Nat) : textR (ts.map bareT) x i = textR ts x i := by unfold textR; rw [nth_bare]; rfl
theorem nameR_bare (ts : List Tok) (i : Nat) : nameR (ts.map bareT) i = nameR ts i := by unfold nameR; rw [nth_bare]; rfl
theorem numR_bare (ts : List Tok) (i : Nat) : numR (ts.map bareT) i = numR ts i := by unfold numR; rw [nth_bare]; rfl
theorem numsL_bare : ∀ (l : List Tok), numsL (l.map bareT) = numsL l
  | [] => rfl
  | t :: r => by
    show (if t.sort = 2 then t.num :: numsL (r.map bareT) else []) = _
    rw [numsL_bare r]; rfl
theorem numsR_bare (ts : List Tok) (i : Nat) : numsR (ts.map bareT) i = numsR ts i := by unfold numsR; rw [← List.map_drop, numsL_bare]
theorem placeR_bare (ts : List Tok) (i : Nat) : placeR (ts.map bareT) i = bareR bareP (placeR ts i) := by
  unfold placeR
  rw [nameR_bare]
  refine then_bare' _ _ _ _ fun n j => ?_
  rw [textR_bare]
  refine then_bare' _ _ _ _ fun _ j => ?_
  rw [numR_bare]
  refine then_bare' _ _ _ _ fun p j => ?_
  rw [nth_bare]; rfl
theorem withR_bare (ts : List Tok) (i : Nat) : withR (ts.map bareT) i = withR ts i := by
  unfold withR
  rw [nth_bare, numR_bare]
  have : (fun (x : Int) (k : Nat) => ((some (x :: numsR (ts.map bareT) k), k + (numsR (ts.map bareT) k).length) : Rd (List Int))) = fun x k => (some (x :: numsR ts k), k + (numsR ts k).length) := by
    funext x k; rw [numsR_bare]
  rw [this]; rfl
theorem bodyR_bare (ts : List Tok) (i : Nat) : bodyR (ts.map bareT) i = bareR bareI (bodyR ts i) := by
  unfold bodyR
  rw [nth_bare]
  rw [bareT_text]
  by_cases h1 : (nthT ts i).text = [97, 99, 116, 111, 114]
  · rw [if_pos h1, if_pos h1]
    unfold actorR
    rw [textR_bare]
    refine then_bare' _ _ _ _ fun _ j => ?_
    rw [nameR_bare]
    refine then_bare' _ _ _ _ fun n j => ?_
    rw [textR_bare]
    refine then_bare' _ _ _ _ fun _ j => ?_
    rw [nameR_bare]
    refine then_bare' _ _ _ _ fun t j => ?_
    rw [numsR_bare, nth_bare]; rfl
  rw [if_neg h1, if_neg h1]
  by_cases h2 : (nthT ts i).text = [101, 100, 103, 101]
  · rw [if_pos h2, if_pos h2]
    unfold edgeR
    rw [textR_bare]
    refine then_bare' _ _ _ _ fun _ j => ?_
    rw [placeR_bare]
    refine then_bare _ _ _ _ _ fun f j => ?_
    rw [textR_bare]
    refine then_bare' _ _ _ _ fun _ j => ?_
    rw [placeR_bare]
    refine then_bare _ _ _ _ _ fun t j => ?_
    rw [withR_bare]
    refine then_bare' _ _ _ _ fun xs j => ?_
    rw [nth_bare]; rfl
  rw [if_neg h2, if_neg h2]
  by_cases h3 : (nthT ts i).text = [105, 110]
  · rw [if_pos h3, if_pos h3]
    unfold inR
    rw [textR_bare]
    refine then_bare' _ _ _ _ fun _ j => ?_
    rw [nameR_bare]
    refine then_bare' _ _ _ _ fun n j => ?_
    rw [textR_bare]
    refine then_bare' _ _ _ _ fun _ j => ?_
    rw [placeR_bare]
    refine then_bare _ _ _ _ _ fun t j => ?_
    rw [nth_bare]; rfl
  · rw [if_neg h3, if_neg h3]
    unfold outR
    rw [textR_bare]
    refine then_bare' _ _ _ _ fun _ j => ?_
    rw [placeR_bare]
    refine then_bare _ _ _ _ _ fun f j => ?_
    rw [textR_bare]
    refine then_bare' _ _ _ _ fun _ j => ?_
    rw [nameR_bare]
    refine then_bare' _ _ _ _ fun n j => ?_
    rw [nth_bare]; rfl
theorem itemR_bare (ts : List Tok) (i : Nat) : itemR (ts.map bareT) i = bareR bareI (itemR ts i) := by
  unfold itemR
  rw [bodyR_bare]
  refine then_bare _ _ _ _ _ fun x j => ?_
  rw [textR_bare]
  exact then_bare' _ _ _ _ fun _ j => rfl
theorem itemsF_bare (ts : List Tok) : ∀ (n i : Nat), itemsF n (ts.map bareT) i = bareR (List.map bareI) (itemsF n ts i)
  | 0, i => rfl
  | n + 1, i => by
    unfold itemsF
    rw [nth_bare]
    rw [bareT_text]
    by_cases h1 : (nthT ts i).text = [125]
    · rw [if_pos h1, if_pos h1]; rfl
    · rw [if_neg h1, if_neg h1, itemR_bare]
      refine then_bare _ _ _ _ _ fun x j => ?_
      rw [itemsF_bare ts n]
      exact then_bare _ _ _ _ _ fun xs k => rfl
/-- Where tokens stand does not count. -/
theorem sketchR_bare (ts : List Tok) : sketchR (ts.map bareT) = bareR bareS (sketchR ts) := by
  unfold sketchR
  rw [textR_bare]
  refine then_bare' _ _ _ _ fun _ j => ?_
  rw [nameR_bare]
  refine then_bare' _ _ _ _ fun n j => ?_
  rw [textR_bare]
  refine then_bare' _ _ _ _ fun _ j => ?_
  rw [itemsF_bare, List.length_map]
  refine then_bare _ _ _ _ _ fun xs j => ?_
  rw [textR_bare]
  refine then_bare' _ _ _ _ fun _ j => ?_
  rw [nth_bare]
  rw [bareT_sort]
  by_cases h1 : (nthT ts j).sort = 0
  · rw [if_pos h1, if_pos h1]; rfl
  · rw [if_neg h1, if_neg h1]; rfl
end Go.Proofs.YthgblljokonejaaGreatDoor
