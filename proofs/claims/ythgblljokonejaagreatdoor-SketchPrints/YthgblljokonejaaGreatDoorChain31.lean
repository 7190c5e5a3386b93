/- Texts of one chain, laid one behind the other. -/
import Derived.Test.YthgblljokonejaaGreatDoorChain28
import Derived.Test.YthgblljokonejaaGreatDoorChain30
import Derived.Test.YthgblljokonejaaGreatDoorChain24
/- What is read of a text is right, and not much longer when it is written. No program is called here. -/
namespace Go.Proofs.YthgblljokonejaaGreatDoor
open Go.RowKit

/-! ### The tokens that were read are those that are written -/
def Fine (ts : List Tok) : Prop := ∀ k, (rightB (nthT ts k) = true ∧ fits8 (nthT ts k).num = true) ∨ ((nthT ts k).sort = 0 ∧ (nthT ts k).text = [])
def took (ts : List Tok) (i j : Nat) (us : List Tok) : Prop := (ts.drop i).map bareT = us ++ (ts.drop j).map bareT
theorem took.trans {ts : List Tok} {i j k : Nat} {a b : List Tok} (h1 : took ts i j a) (h2 : took ts j k b) : took ts i k (a ++ b) := by
  unfold took at *
  rw [h1, h2, List.append_assoc]
theorem took_nil (ts : List Tok) (i : Nat) : took ts i i [] := rfl
theorem took_one {ts : List Tok} {i : Nat} (h : nthT ts i ≠ noTok) : took ts i (i + 1) [bareT (nthT ts i)] := by
  unfold took
  have hi : i < ts.length := by
    rcases Nat.lt_or_ge i ts.length with h1 | h1
    · exact h1
    · exact absurd (by unfold nthT; rw [List.getD_eq_getElem?_getD, List.getElem?_eq_none h1]; rfl) h
  rw [List.drop_eq_getElem_cons hi]
  have e : nthT ts i = ts[i] := by unfold nthT; rw [List.getD_eq_getElem?_getD, List.getElem?_eq_getElem hi]; rfl
  rw [e]; rfl
theorem right_cases {t : Tok} (h : rightB t = true) : (t.sort = 1 ∧ t.num = 0 ∧ nameB t.text = true) ∨ (t.sort = 2 ∧ t.text = []) ∨ (t.sort = 3 ∧ t.num = 0 ∧ markT t.text = true) := by
  unfold rightB at h
  split at h
  · rename_i h1
    rw [Bool.and_eq_true, decide_eq_true_iff] at h
    exact .inl ⟨h1, h⟩
  split at h
  · rename_i h1
    rw [decide_eq_true_iff] at h
    exact .inr (.inl ⟨h1, h⟩)
  split at h
  · rename_i h1
    rw [Bool.and_eq_true, decide_eq_true_iff] at h
    exact .inr (.inr ⟨h1, h⟩)
  · cases h
theorem took_word {ts : List Tok} (hF : Fine ts) {x : List UInt8} {i j : Nat} {u : Unit} (hx : markT x = false) (hn : x ≠ []) (h : textR ts x i = (some u, j)) : took ts i j [wdT x] ∧ j = i + 1 := by
  have hj := textR_eq h
  have ht : (nthT ts i).text = x := by
    unfold textR at h
    split at h
    · assumption
    · cases h
  subst hj
  refine ⟨?_, rfl⟩
  have h1 := took_one (ts := ts) (i := i) (fun e => hn (by rw [← ht, e]; rfl))
  have h2 : bareT (nthT ts i) = wdT x := by
    rcases hF i with ⟨h3, -⟩ | ⟨-, h3⟩
    · rcases right_cases h3 with ⟨a, b, c⟩ | ⟨a, b⟩ | ⟨a, b, c⟩
      · unfold bareT wdT; rw [a, b, ht]
      · rw [ht] at b; exact absurd b hn
      · rw [ht, hx] at c; cases c
    · rw [ht] at h3; exact absurd h3 hn
  rw [h2] at h1
  exact h1
theorem took_mark {ts : List Tok} (hF : Fine ts) {x : List UInt8} {i j : Nat} {u : Unit} (hx : letB (by8 x 0) = false) (hn : x ≠ []) (h : textR ts x i = (some u, j)) : took ts i j [mrT x] ∧ j = i + 1 := by
  have hj := textR_eq h
  have ht : (nthT ts i).text = x := by
    unfold textR at h
    split at h
    · assumption
    · cases h
  subst hj
  refine ⟨?_, rfl⟩
  have h1 := took_one (ts := ts) (i := i) (fun e => hn (by rw [← ht, e]; rfl))
  have h2 : bareT (nthT ts i) = mrT x := by
    rcases hF i with ⟨h3, -⟩ | ⟨-, h3⟩
    · rcases right_cases h3 with ⟨a, b, c⟩ | ⟨a, b⟩ | ⟨a, b, c⟩
      · rw [ht] at c
        unfold nameB at c
        rw [hx] at c
        simp at c
      · rw [ht] at b; exact absurd b hn
      · unfold bareT mrT; rw [a, b, ht]
    · rw [ht] at h3; exact absurd h3 hn
  rw [h2] at h1
  exact h1
theorem took_name {ts : List Tok} (hF : Fine ts) {n : List UInt8} {i j : Nat} (h : nameR ts i = (some n, j)) : took ts i j [wdT n] ∧ nameB n = true := by
  have hj := nameR_eq h
  have ht : (nthT ts i).sort = 1 ∧ (nthT ts i).text = n := by
    unfold nameR at h
    split at h
    · rename_i h1
      injection h with h2 h3
      exact ⟨h1, Option.some.inj h2⟩
    · cases h
  subst hj
  have h1 := took_one (ts := ts) (i := i) (fun e => by rw [e] at ht; exact absurd ht.1 (by decide))
  rcases hF i with ⟨h3, -⟩ | ⟨h3, -⟩
  · rcases right_cases h3 with ⟨a, b, c⟩ | ⟨a, b⟩ | ⟨a, b, c⟩
    · have h2 : bareT (nthT ts i) = wdT n := by unfold bareT wdT; rw [a, b, ht.2]
      rw [h2] at h1
      exact ⟨h1, by rw [← ht.2]; exact c⟩
    · omega
    · omega
  · omega
theorem num_tok {ts : List Tok} (hF : Fine ts) {i : Nat} (h : (nthT ts i).sort = 2) : took ts i (i + 1) [nbT (nthT ts i).num] ∧ fits8 (nthT ts i).num = true := by
  have h1 := took_one (ts := ts) (i := i) (fun e => by rw [e] at h; exact absurd h (by decide))
  rcases hF i with ⟨h3, h4⟩ | ⟨h3, -⟩
  · rcases right_cases h3 with ⟨a, b, c⟩ | ⟨a, b⟩ | ⟨a, b, c⟩
    · omega
    · have h2 : bareT (nthT ts i) = nbT (nthT ts i).num := by unfold bareT nbT; rw [a, b]
      rw [h2] at h1
      exact ⟨h1, h4⟩
    · omega
  · omega
theorem took_num {ts : List Tok} (hF : Fine ts) {n : Int} {i j : Nat} (h : numR ts i = (some n, j)) : took ts i j [nbT n] ∧ fits8 n = true := by
  have hj := numR_eq h
  have ht : (nthT ts i).sort = 2 ∧ (nthT ts i).num = n := by
    unfold numR at h
    split at h
    · rename_i h1
      injection h with h2 h3
      exact ⟨h1, Option.some.inj h2⟩
    · cases h
  subst hj
  have := num_tok hF ht.1
  rw [ht.2] at this
  exact this
theorem took_nums {ts : List Tok} (hF : Fine ts) : ∀ (n i : Nat), ts.length - i ≤ n → took ts i (i + (numsR ts i).length) (numsU (numsR ts i)) ∧ ∀ x ∈ numsR ts i, fits8 x = true
  | n, i, hn => by
    by_cases h2 : (nthT ts i).sort = 2
    · have hi : i < ts.length := by
        rcases Nat.lt_or_ge i ts.length with h1 | h1
        · exact h1
        · have : nthT ts i = noTok := by unfold nthT; rw [List.getD_eq_getElem?_getD, List.getElem?_eq_none h1]; rfl
          rw [this] at h2; exact absurd h2 (by decide)
      match n, hn with
      | 0, hn => omega
      | n + 1, hn =>
        obtain ⟨a, b⟩ := num_tok hF h2
        obtain ⟨c, d⟩ := took_nums hF n (i + 1) (by omega)
        rw [nums_step hi h2]
        refine ⟨?_, fun x hx => ?_⟩
        · have := a.trans c
          rw [List.length_cons, show i + ((numsR ts (i + 1)).length + 1) = i + 1 + (numsR ts (i + 1)).length by omega]
          exact this
        · rcases List.mem_cons.1 hx with rfl | hx
          · exact b
          · exact d x hx
    · rw [nums_stop h2]
      exact ⟨took_nil ts i, fun x hx => by cases hx⟩
theorem took_place {ts : List Tok} (hF : Fine ts) {p : Plc} {i j : Nat} (h : placeR ts i = (some p, j)) : took ts i j (placeU p) ∧ nameB p.name = true ∧ fits8 p.port = true := by
  unfold placeR at h
  obtain ⟨n, j1, h1, h⟩ := then_eq h
  obtain ⟨u, j2, h2, h⟩ := then_eq h
  obtain ⟨q, j3, h3, h⟩ := then_eq h
  obtain ⟨a, b⟩ := took_name hF h1
  obtain ⟨c, -⟩ := took_mark hF rfl (by decide) h2
  obtain ⟨d, e⟩ := took_num hF h3
  injection h with h4 h5
  have h4 := Option.some.inj h4
  subst h4
  subst h5
  exact ⟨a.trans (c.trans d), b, e⟩
theorem took_with {ts : List Tok} (hF : Fine ts) {ns : List Int} {i j : Nat} (h : withR ts i = (some ns, j)) : took ts i j ((if ns ≠ [] then [wdT [119, 105, 116, 104]] else []) ++ numsU ns) ∧ ∀ x ∈ ns, fits8 x = true := by
  unfold withR at h
  split at h
  · rename_i h0
    obtain ⟨x, j1, h1, h⟩ := then_eq h
    have hw : textR ts [119, 105, 116, 104] i = (some (), i + 1) := by unfold textR; rw [if_pos h0]
    obtain ⟨a, -⟩ := took_word hF rfl (by decide) hw
    obtain ⟨b, c⟩ := took_num hF h1
    obtain ⟨d, e⟩ := took_nums hF (ts.length - j1) j1 (Nat.le_refl _)
    injection h with h2 h3
    have h2 := Option.some.inj h2
    subst h2
    subst h3
    refine ⟨?_, fun y hy => ?_⟩
    · rw [if_pos (List.cons_ne_nil _ _)]
      exact a.trans (b.trans d)
    · rcases List.mem_cons.1 hy with rfl | hy
      · exact c
      · exact e y hy
  · injection h with h2 h3
    have h2 := Option.some.inj h2
    subst h2
    subst h3
    exact ⟨took_nil ts i, fun x hx => by cases hx⟩
theorem abs_no : absB noPlc = true := rfl
theorem took_body {ts : List Tok} (hF : Fine ts) {x : Itm} {i j : Nat} (h : bodyR ts i = (some x, j)) : took ts i j (headU x ++ (withU x ++ numsU x.nums)) ∧ rightX x = true ∧ FitsX x := by
  unfold bodyR at h
  split at h
  · unfold actorR at h
    obtain ⟨u, j1, h1, h⟩ := then_eq h
    obtain ⟨n, j2, h2, h⟩ := then_eq h
    obtain ⟨u2, j3, h3, h⟩ := then_eq h
    obtain ⟨t, j4, h4, h⟩ := then_eq h
    obtain ⟨a1, -⟩ := took_word hF rfl (by decide) h1
    obtain ⟨a2, b2⟩ := took_name hF h2
    obtain ⟨a3, -⟩ := took_mark hF rfl (by decide) h3
    obtain ⟨a4, b4⟩ := took_name hF h4
    obtain ⟨a5, b5⟩ := took_nums hF (ts.length - j4) j4 (Nat.le_refl _)
    injection h with h6 h7
    have h6 := Option.some.inj h6
    subst h6
    subst h7
    refine ⟨a1.trans (a2.trans (a3.trans (a4.trans a5))), ?_, ⟨rfl, rfl, b5⟩⟩
    unfold rightX
    simp only [if_true, b2, b4, abs_no, Bool.and_self]
  split at h
  · unfold edgeR at h
    obtain ⟨u, j1, h1, h⟩ := then_eq h
    obtain ⟨f, j2, h2, h⟩ := then_eq h
    obtain ⟨u2, j3, h3, h⟩ := then_eq h
    obtain ⟨t, j4, h4, h⟩ := then_eq h
    obtain ⟨ns, j5, h5, h⟩ := then_eq h
    obtain ⟨a1, -⟩ := took_word hF rfl (by decide) h1
    obtain ⟨a2, b2, c2⟩ := took_place hF h2
    obtain ⟨a3, -⟩ := took_mark hF rfl (by decide) h3
    obtain ⟨a4, b4, c4⟩ := took_place hF h4
    obtain ⟨a5, b5⟩ := took_with hF h5
    injection h with h6 h7
    have h6 := Option.some.inj h6
    subst h6
    subst h7
    refine ⟨?_, ?_, ⟨c2, c4, b5⟩⟩
    · have := a1.trans (a2.trans (a3.trans (a4.trans a5)))
      unfold headU withU
      simp only [show ¬ ((2 : Int) = 1) by decide, if_false, if_true, true_and]
      simpa [List.append_assoc] using this
    · unfold rightX
      simp [b2, b4]
  split at h
  · unfold inR at h
    obtain ⟨u, j1, h1, h⟩ := then_eq h
    obtain ⟨n, j2, h2, h⟩ := then_eq h
    obtain ⟨u2, j3, h3, h⟩ := then_eq h
    obtain ⟨t, j4, h4, h⟩ := then_eq h
    obtain ⟨a1, -⟩ := took_word hF rfl (by decide) h1
    obtain ⟨a2, b2⟩ := took_name hF h2
    obtain ⟨a3, -⟩ := took_mark hF rfl (by decide) h3
    obtain ⟨a4, b4, c4⟩ := took_place hF h4
    injection h with h6 h7
    have h6 := Option.some.inj h6
    subst h6
    subst h7
    refine ⟨?_, ?_, ⟨rfl, c4, fun x hx => by cases hx⟩⟩
    · have := a1.trans (a2.trans (a3.trans a4))
      unfold headU withU
      simp only [show ¬ ((3 : Int) = 1) by decide, show ¬ ((3 : Int) = 2) by decide, if_false, if_true, false_and]
      simpa [numsU] using this
    · unfold rightX
      simp [b2, b4, bareB, abs_no]
  · unfold outR at h
    obtain ⟨u, j1, h1, h⟩ := then_eq h
    obtain ⟨f, j2, h2, h⟩ := then_eq h
    obtain ⟨u2, j3, h3, h⟩ := then_eq h
    obtain ⟨n, j4, h4, h⟩ := then_eq h
    obtain ⟨a1, -⟩ := took_word hF rfl (by decide) h1
    obtain ⟨a2, b2, c2⟩ := took_place hF h2
    obtain ⟨a3, -⟩ := took_mark hF rfl (by decide) h3
    obtain ⟨a4, b4⟩ := took_name hF h4
    injection h with h6 h7
    have h6 := Option.some.inj h6
    subst h6
    subst h7
    refine ⟨?_, ?_, ⟨c2, rfl, fun x hx => by cases hx⟩⟩
    · have := a1.trans (a2.trans (a3.trans a4))
      unfold headU withU
      simp only [show ¬ ((4 : Int) = 1) by decide, show ¬ ((4 : Int) = 2) by decide, show ¬ ((4 : Int) = 3) by decide, if_false, false_and]
      simpa [numsU] using this
    · unfold rightX
      simp [b2, b4, bareB, abs_no]
theorem took_item {ts : List Tok} (hF : Fine ts) {x : Itm} {i j : Nat} (h : itemR ts i = (some x, j)) : took ts i j (itemU x) ∧ rightX x = true ∧ FitsX x := by
  unfold itemR at h
  obtain ⟨y, j1, h1, h⟩ := then_eq h
  obtain ⟨u, j2, h2, h⟩ := then_eq h
  obtain ⟨a1, b1, c1⟩ := took_body hF h1
  obtain ⟨a2, -⟩ := took_mark hF rfl (by decide) h2
  injection h with h6 h7
  have h6 := Option.some.inj h6
  subst h6
  subst h7
  refine ⟨?_, b1, c1⟩
  have := a1.trans a2
  unfold itemU
  simpa [List.append_assoc] using this
theorem took_items {ts : List Tok} (hF : Fine ts) : ∀ (n i j : Nat) (xs : List Itm), itemsF n ts i = (some xs, j) → took ts i j (xs.flatMap itemU) ∧ ∀ x ∈ xs, rightX x = true ∧ FitsX x
  | 0, i, j, xs, h => by unfold itemsF at h; cases h
  | n + 1, i, j, xs, h => by
    unfold itemsF at h
    split at h
    · injection h with h6 h7
      have h6 := Option.some.inj h6
      subst h6
      subst h7
      exact ⟨took_nil ts i, fun x hx => by cases hx⟩
    · obtain ⟨x, j1, h1, h⟩ := then_eq h
      obtain ⟨ys, j2, h2, h⟩ := then_eq h
      obtain ⟨a1, b1⟩ := took_item hF h1
      obtain ⟨a2, b2⟩ := took_items hF n j1 j2 ys h2
      injection h with h6 h7
      have h6 := Option.some.inj h6
      subst h6
      subst h7
      refine ⟨by rw [List.flatMap_cons]; exact a1.trans a2, fun y hy => ?_⟩
      rcases List.mem_cons.1 hy with rfl | hy
      · exact b1
      · exact b2 y hy
/-- What is read is right, and its tokens are those of its one form. -/
theorem took_sketch {ts : List Tok} (hF : Fine ts) {s : Skt} {j : Nat} (h : sketchR ts = (some s, j)) : (∃ r, ts.map bareT = formU s.name s.items ++ r) ∧ nameB s.name = true ∧ ∀ x ∈ s.items, rightX x = true ∧ FitsX x := by
  unfold sketchR at h
  obtain ⟨u, j1, h1, h⟩ := then_eq h
  obtain ⟨n, j2, h2, h⟩ := then_eq h
  obtain ⟨u2, j3, h3, h⟩ := then_eq h
  obtain ⟨xs, j4, h4, h⟩ := then_eq h
  obtain ⟨u3, j5, h5, h⟩ := then_eq h
  obtain ⟨a1, -⟩ := took_word hF rfl (by decide) h1
  obtain ⟨a2, b2⟩ := took_name hF h2
  obtain ⟨a3, -⟩ := took_mark hF rfl (by decide) h3
  obtain ⟨a4, b4⟩ := took_items hF _ _ _ _ h4
  obtain ⟨a5, -⟩ := took_mark hF rfl (by decide) h5
  split at h
  · injection h with h6 h7
    have h6 := Option.some.inj h6
    subst h6
    refine ⟨⟨(ts.drop j5).map bareT, ?_⟩, b2, b4⟩
    have := a1.trans (a2.trans (a3.trans (a4.trans a5)))
    unfold took at this
    rw [List.drop_zero] at this
    exact this
  · cases h
/-! ### How long it is -/
def sumS (ts : List Tok) : Nat := (ts.map fun t => (spelt t).length).sum
theorem sumS_app (a b : List Tok) : sumS (a ++ b) = sumS a + sumS b := by unfold sumS; rw [List.map_append, List.sum_append_nat]
theorem sumS_cons (t : Tok) (r : List Tok) : sumS (t :: r) = (spelt t).length + sumS r := by unfold sumS; rw [List.map_cons, List.sum_cons]
theorem sumS_bare : ∀ ts : List Tok, sumS (ts.map bareT) = sumS ts
  | [] => rfl
  | t :: r => by rw [List.map_cons, sumS_cons, sumS_cons, sumS_bare r]; rfl
theorem int_pos (n : Int) : 0 < (intS n).length := by
  unfold intS
  split
  · decide
  · rename_i h
    have hn : 0 < n.natAbs := by omega
    obtain ⟨-, -, a3⟩ := natS_facts n.natAbs n.natAbs (Nat.le_refl _)
    have := (a3 hn).1
    rw [List.length_append]
    have h2 : 0 < (natS n.natAbs).length := List.length_pos_iff.2 this
    omega
theorem spelt_wd (x : List UInt8) : (spelt (wdT x)).length = x.length := rfl
theorem spelt_mr (x : List UInt8) : (spelt (mrT x)).length = x.length := rfl
theorem spelt_nb (n : Int) : (spelt (nbT n)).length = (intS n).length := rfl
theorem nums_short : ∀ ns : List Int, (numsT ns).length ≤ 4 * sumS (numsU ns)
  | [] => Nat.zero_le _
  | n :: r => by
    have ih := nums_short r
    have := int_pos n
    show (numT n ++ numsT r).length ≤ 4 * sumS (nbT n :: numsU r)
    rw [sumS_cons, spelt_nb, List.length_append]
    unfold numT
    rw [List.length_cons, itoa_intS]
    omega
theorem place_sum (p : Plc) : sumS (placeU p) = p.name.length + (1 + (intS p.port).length) := by
  unfold placeU
  rw [sumS_cons, sumS_cons, sumS_cons, spelt_wd, spelt_mr, spelt_nb]
  rfl
theorem place_lenT (p : Plc) : (placeT p).length = p.name.length + 1 + (intS p.port).length := by
  unfold placeT
  rw [itoa_intS]; simp; omega
theorem item_short (x : Itm) : (itemT x).length ≤ 4 * sumS (itemU x) := by
  have hn := nums_short x.nums
  unfold itemT itemU
  rw [sumS_app, sumS_app, sumS_app, List.length_append, List.length_append, List.length_append]
  have hw : (withT x).length ≤ 4 * sumS (withU x) := by
    unfold withT withU
    split
    · decide
    · decide
  have hh : (headT x).length + 2 ≤ 4 * (sumS (headU x) + 1) := by
    have hf := place_lenT x.frm; have ht := place_lenT x.to; have qf := place_sum x.frm; have qt := place_sum x.to
    unfold headT headU
    split
    · simp only [sumS_cons, spelt_wd, spelt_mr, List.length_append, List.length_cons, List.length_nil]
      omega
    split
    · simp only [sumS_cons, sumS_app, spelt_wd, spelt_mr, List.length_append, List.length_cons, List.length_nil, hf, ht, qf, qt]
      omega
    split
    · simp only [sumS_cons, spelt_wd, spelt_mr, List.length_append, List.length_cons, List.length_nil, ht, qt]
      omega
    · simp only [sumS_cons, sumS_app, spelt_wd, spelt_mr, List.length_append, List.length_cons, List.length_nil, hf, qf]
      omega
  have he : sumS [mrT [59]] = 1 := rfl
  rw [he]
  show _ + _ + _ + 2 ≤ _
  omega
theorem items_short : ∀ xs : List Itm, (xs.flatMap itemT).length ≤ 4 * sumS (xs.flatMap itemU)
  | [] => Nat.zero_le _
  | x :: r => by
    rw [List.flatMap_cons, List.flatMap_cons, sumS_app, List.length_append]
    have := items_short r; have := item_short x; omega
theorem form_short (nm : List UInt8) (xs : List Itm) : (headS nm ++ xs.flatMap itemT ++ [125, 10]).length ≤ 4 * sumS (formU nm xs) := by
  have h := items_short xs
  unfold headS formU
  simp only [sumS_cons, sumS_app, spelt_wd, spelt_mr, List.length_append, List.length_cons, List.length_nil]
  omega
/-! ### Tokens as they lie in a text -/
def Laid (l : List UInt8) : Nat → List Tok → Prop
  | _, [] => False
  | p, t :: r => ∃ q : Nat, t.place = (q : Int) ∧ p ≤ q ∧ q + (spelt t).length ≤ l.length ∧ (l.drop q).take (spelt t).length = spelt t ∧ fits8 t.num = true ∧ ((t.sort = 0 ∧ r = [] ∧ q + (spelt t).length = l.length) ∨ (t.sort ≠ 0 ∧ rightB t = true ∧ Laid l (q + (spelt t).length) r))
theorem laid_of {l : List UInt8} : ∀ (n p : Nat) (ts : List Tok), ts.length ≤ n → p ≤ l.length → allL p (l.drop p) = ⟨ts, 0, 0⟩ → Laid l p ts
  | 0, p, ts, hn, hp, h => by
    obtain ⟨t, rest, q, s, rfl, st⟩ := place_step hp h
    simp at hn
  | n + 1, p, ts, hn, hp, h => by
    obtain ⟨t, rest, q, s, rfl, st⟩ := place_step hp h
    have es := st.spelt
    have r1 := st.room
    have r2 := st.stands
    subst es
    refine ⟨q, st.place, st.le, r1, r2, st.fits, ?_⟩
    rcases st.ways with ⟨a, b, c⟩ | ⟨a, b, c, d⟩
    · exact .inl ⟨a, b, c⟩
    · exact .inr ⟨a, b, laid_of n _ rest (by simp at hn; omega) r1 d⟩
theorem laid_sum {l : List UInt8} : ∀ (ts : List Tok) (p : Nat), Laid l p ts → p + sumS ts ≤ l.length
  | [], p, h => by cases h
  | t :: r, p, h => by
    obtain ⟨q, -, h2, h3, -, -, h6⟩ := h
    rw [sumS_cons]
    rcases h6 with ⟨-, rfl, -⟩ | ⟨-, -, h7⟩
    · show p + ((spelt t).length + 0) ≤ _; omega
    · have := laid_sum r _ h7
      omega
theorem laid_fine {l : List UInt8} : ∀ (ts : List Tok) (p : Nat), Laid l p ts → Ended ts → Fine ts
  | [], p, h, _ => by cases h
  | t :: r, p, h, hE => by
    obtain ⟨q, -, h2, h3, -, h5, h6⟩ := h
    rcases h6 with ⟨a, rfl, -⟩ | ⟨a, b, h7⟩
    · intro k
      match k with
      | 0 => exact .inr ⟨a, hE.text⟩
      | k + 1 => exact .inr ⟨rfl, rfl⟩
    · have hr : r ≠ [] := by intro e; rw [e] at h7; cases h7
      have hE2 : Ended r := by
        have hp := hE.pos
        have h1 : 0 < r.length := List.length_pos_iff.2 hr
        have e : (t :: r).length - 1 = (r.length - 1) + 1 := by rw [List.length_cons]; omega
        refine ⟨h1, ?_, ?_⟩
        · have := hE.sort; rw [e] at this; exact this
        · have := hE.text; rw [e] at this; exact this
      have ih := laid_fine r _ h7 hE2
      intro k
      match k with
      | 0 => exact .inl ⟨b, h5⟩
      | k + 1 => exact ih k
theorem text_laid {l : List UInt8} (h : (textG l).err = 0) : l.length ≤ 1048576 ∧ Laid l 0 (textG l).toks := by
  by_cases hl : 1048576 < l.length
  · unfold textG at h
    rw [if_pos hl] at h
    cases h
  · have e : textG l = allL 0 l := by unfold textG; rw [if_neg hl]
    rw [e] at h ⊢
    refine ⟨by omega, laid_of _ 0 _ (Nat.le_refl _) (Nat.zero_le _) ?_⟩
    rw [List.drop_zero]
    have hz := allL_zero h
    generalize allL 0 l = G at *
    obtain ⟨ts, er, pl⟩ := G
    simp only at h hz
    subst h
    subst hz
    rfl
theorem bare_comp (xs : List Itm) : (xs.map bareI).map bareI = xs.map bareI := by
  rw [List.map_map]; rfl
/-- What is read of a text: right, and printed in at most four times as many bytes. -/
theorem text_right {l : List UInt8} {s : Skt} {j : Nat} (h : (textG l).err = 0) (hs : sketchR (textG l).toks = (some s, j)) :
    nameB s.name = true ∧ (∀ x ∈ s.items, rightX x = true ∧ FitsX x) ∧ (headS s.name ++ s.items.flatMap itemT ++ [125, 10]).length ≤ 4 * l.length := by
  obtain ⟨hl, hL⟩ := text_laid h
  have hF := laid_fine _ _ hL (text_ended h)
  obtain ⟨⟨r, hr⟩, hn, hx⟩ := took_sketch hF hs
  refine ⟨hn, hx, ?_⟩
  have h1 := form_short s.name s.items
  have h2 := laid_sum _ _ hL
  have h3 := congrArg sumS hr
  rw [sumS_bare, sumS_app] at h3
  omega
end Go.Proofs.YthgblljokonejaaGreatDoor

/- The document's bare, SameItem and Alike, where two sketches are the same but for their places. (Written by tmpl/mkAL.py.) -/
namespace Go.Proofs.YthgblljokonejaaGreatDoor
open Go.ChangeShapes Go.WideShapes Go.ChangeAt Go.RowKit

set_option maxHeartbeats 1000000 in
theorem ints5 (ns : List Int) (a1 a2 : Option Addr) (k1 k2 : Nat) (w : World) (hm : ns.length ≤ 17592186044416) (h1 : IntsAt w (.slice a1 ns.length k1) ns) (h2 : IntsAt w (.slice a2 ns.length k2) ns) :
    Calls Tryz.prog 45 #[.slice a1 ns.length k1, .slice a2 ns.length k2] w fun e w' => e = .returned (.bool true) ∧ Below w.heap.size w w' := by
  obtain ⟨a, c, e1, h1⟩ := h1
  obtain ⟨b, d, e2, h2⟩ := h2
  cases e1
  cases e2
  obtain ⟨len, hl⟩ : ∃ n, ns.length = n := ⟨_, rfl⟩
  rw [hl] at hm ⊢
  have hee : ((len : Int) != (len : Int)) = false := by simp
  go_enter Tryz.func45, Tryz.ntmps45
  go_wp2
  go_loopw [5] (fun i wr => ∃ k n : Nat, k ≤ len ∧ wr = w.drewN n ∧ i = .int .i64 k) (fun i _ => len - (intOf i).toNat)
  case atStart => exact ⟨0, 0, Nat.zero_le _, rfl, rfl⟩
  case round =>
    obtain ⟨k, n, hk, rfl, rfl⟩ := hrel
    by_cases hlt : k < len
    · rcases h1 with h0 | ⟨g1, o1, rfl, q1⟩
      · rw [h0] at hl; simp at hl; omega
      rcases h2 with h0 | ⟨g2, o2, rfl, q2⟩
      · rw [h0] at hl; simp at hl; omega
      have c1 := q1 k (by omega)
      have c2 := q2 k (by omega)
      have hki : (k : Int) < (len : Int) := by omega
      have hnn : (ns.getD k 0 != ns.getD k 0) = false := by simp
      generalize ns.getD k 0 = x at *
      go_wp2
      go_quiet (fail)
      go_wp2
      go_roundw
      case rel => exact ⟨k + 1, n + nq, by omega, rfl, by go_num⟩
      case measure => simp [intOf]; omega
    · go_wp2
      go_ret
      exact ⟨rfl, bdrew (Below.refl _ _) n⟩
set_option maxRecDepth 100000 in
set_option maxHeartbeats 4000000 in
theorem rsame_any (x : Itm) (a1 a2 : Option Addr) (k1 k2 : Nat) (w : World) (hm : x.nums.length ≤ 17592186044416) (h1 : IntsAt w (.slice a1 x.nums.length k1) x.nums) (h2 : IntsAt w (.slice a2 x.nums.length k2) x.nums) :
    Calls Tryz.prog 24 #[.agg #[.int .u8 x.kind, .string (str x.name), .string (str x.tag), .slice a1 x.nums.length k1, .string (str x.frm.name), .int .i64 x.frm.port, .int .i64 x.frm.place, .string (str x.to.name), .int .i64 x.to.port, .int .i64 x.to.place, .int .i64 x.place], .agg #[.int .u8 x.kind, .string (str x.name), .string (str x.tag), .slice a2 x.nums.length k2, .string (str x.frm.name), .int .i64 x.frm.port, .int .i64 x.frm.place, .string (str x.to.name), .int .i64 x.to.port, .int .i64 x.to.place, .int .i64 x.place]] w fun e w' => e = .returned (.bool true) ∧ Below w.heap.size w w' := by
  have HI : Hid (∀ o1 o2, Calls Tryz.prog 45 #[.slice a1 x.nums.length k1, .slice a2 x.nums.length k2] ((w.alloc o1).alloc o2) fun e w' => e = .returned (.bool true) ∧ Below ((w.alloc o1).alloc o2).heap.size ((w.alloc o1).alloc o2) w') := fun o1 o2 => ints5 x.nums a1 a2 k1 k2 _ hm (h1.below (((Below.refl _ _).alloc (Nat.le_refl _) o1).alloc (by simp) o2)) (h2.below (((Below.refl _ _).alloc (Nat.le_refl _) o1).alloc (by simp) o2))
  have B : Hid (∀ o1 o2, Below w.heap.size w ((w.alloc o1).alloc o2)) := fun o1 o2 => ((Below.refl _ _).alloc (Nat.le_refl _) o1).alloc (by simp) o2
  obtain ⟨ki, nm, tg, ns, ⟨fn, fp, fa⟩, ⟨tn, tp, ta⟩, pl⟩ := x
  simp only at hm h1 h2 HI ⊢
  have q1 := str_list nm
  have q2 := str_list tg
  have q3 := str_list fn
  have q4 := str_list tn
  have r1 : (nm == nm) = true := by simp
  have r2 : (tg == tg) = true := by simp
  have r3 : (fn == fn) = true := by simp
  have r4 : (tn == tn) = true := by simp
  have r5 : (ki == ki) = true := by simp
  have r6 : (fp == fp) = true := by simp
  have r7 : (tp == tp) = true := by simp
  clear hm h1 h2
  generalize ns.length = len at *
  go_enter Tryz.func24, Tryz.ntmps24
  go_wp2_with (go_at_call 45; (with_reducible refine (HI.out _ _).mono ?_); rintro e w1 ⟨rfl, b1⟩)
  go_ret
  exact ⟨by first | rfl | simp, (B.out _ _).trans (b1.mono (B.out _ _).size)⟩
theorem bare_same {x y : Itm} (h : bareI x = bareI y) : x.kind = y.kind ∧ x.name = y.name ∧ x.tag = y.tag ∧ x.nums = y.nums ∧ x.frm.name = y.frm.name ∧ x.frm.port = y.frm.port ∧ x.to.name = y.to.name ∧ x.to.port = y.to.port := by
  unfold bareI bareP at h
  injection h with h1 h2 h3 h4 h5 h6 h7
  injection h5 with h8 h9
  injection h6 with h10 h11
  exact ⟨h1, h2, h3, h4, h8, h9, h10, h11⟩
theorem same_nth {L M : List (Itm × Value)} (h : (L.map Prod.fst).map bareI = (M.map Prod.fst).map bareI) (k : Nat) : bareI (nthI L k).1 = bareI (nthI M k).1 := by
  have h1 : ∀ N : List (Itm × Value), ((N.map Prod.fst).map bareI).getD k (bareI noItm) = bareI (nthI N k).1 := fun N => by
    unfold nthI
    rw [List.map_map, List.getD_eq_getElem?_getD, List.getD_eq_getElem?_getD, List.getElem?_map]
    cases N[k]? <;> rfl
  rw [← h1 L, ← h1 M, h]
end Go.Proofs.YthgblljokonejaaGreatDoor
