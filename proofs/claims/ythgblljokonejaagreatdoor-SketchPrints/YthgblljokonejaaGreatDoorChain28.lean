/- Texts of one chain, laid one behind the other. -/
import Derived.Test.YthgblljokonejaaGreatDoorChain27
import Derived.Test.YthgblljokonejaaGreatDoorChain24
/- A sketch as pieces of a text. No program is called here. -/
namespace Go.Proofs.YthgblljokonejaaGreatDoor
open Go.RowKit

/-! ### A sketch's pieces -/
def wdT (x : List UInt8) : Tok := ⟨1, x, 0, 0⟩
def mrT (x : List UInt8) : Tok := ⟨3, x, 0, 0⟩
def nbT (n : Int) : Tok := ⟨2, [], n, 0⟩
def placeQ (p : Plc) (g : List UInt8) : List Pc := [(some (wdT p.name), []), (some (mrT [46]), []), (some (nbT p.port), g)]
def numsQ (ns : List Int) : List Pc := ns.flatMap fun n => [(none, [32]), (some (nbT n), [])]
def headQ (x : Itm) : List Pc :=
  if x.kind = 1 then [(none, [32, 32]), (some (wdT [97, 99, 116, 111, 114]), [32]), (some (wdT x.name), [32]), (some (mrT [61]), [32]), (some (wdT x.tag), [])]
  else if x.kind = 2 then (none, [32, 32]) :: (some (wdT [101, 100, 103, 101]), [32]) :: (placeQ x.frm [32] ++ (some (mrT [45, 62]), [32]) :: placeQ x.to [])
  else if x.kind = 3 then (none, [32, 32]) :: (some (wdT [105, 110]), [32]) :: (some (wdT x.name), [32]) :: (some (mrT [45, 62]), [32]) :: placeQ x.to []
  else (none, [32, 32]) :: (some (wdT [111, 117, 116]), [32]) :: (placeQ x.frm [32] ++ [(some (mrT [45, 62]), [32]), (some (wdT x.name), [])])
def withQ (x : Itm) : List Pc := if x.kind = 2 ∧ x.nums ≠ [] then [(none, [32]), (some (wdT [119, 105, 116, 104]), [])] else []
def itemQ (x : Itm) : List Pc := headQ x ++ (withQ x ++ (numsQ x.nums ++ [(some (mrT [59]), [10])]))
def formQ (nm : List UInt8) (xs : List Itm) : List Pc := (some (wdT [103, 114, 97, 112, 104]), [32]) :: (some (wdT nm), [32]) :: (some (mrT [123]), [10]) :: (xs.flatMap itemQ ++ [(some (mrT [125]), [10])])
theorem txt_place (p : Plc) (g : List UInt8) : txtP (placeQ p g) = placeT p ++ g := by
  unfold placeQ placeT
  simp [txtP, speltP, spelt, wdT, mrT, nbT, itoa_intS]
theorem txt_nums : ∀ ns : List Int, txtP (numsQ ns) = numsT ns
  | [] => rfl
  | n :: r => by
    show txtP ([(none, [32]), (some (nbT n), [])] ++ numsQ r) = numT n ++ numsT r
    rw [txtP_app, txt_nums r]
    simp [txtP, speltP, spelt, nbT, numT, itoa_intS]
theorem txt_head (x : Itm) : txtP (headQ x) = headT x := by
  unfold headQ headT
  by_cases h1 : x.kind = 1
  · rw [if_pos h1, if_pos h1]; simp [txtP, speltP, spelt, wdT, mrT]
  rw [if_neg h1, if_neg h1]
  by_cases h2 : x.kind = 2
  · rw [if_pos h2, if_pos h2]
    show txtP ([(none, [32, 32]), (some (wdT [101, 100, 103, 101]), [32])] ++ (placeQ x.frm [32] ++ ([(some (mrT [45, 62]), [32])] ++ placeQ x.to []))) = _
    rw [txtP_app, txtP_app, txtP_app, txt_place, txt_place]
    simp [txtP, speltP, spelt, wdT, mrT]
  rw [if_neg h2, if_neg h2]
  by_cases h3 : x.kind = 3
  · rw [if_pos h3, if_pos h3]
    show txtP ([(none, [32, 32]), (some (wdT [105, 110]), [32]), (some (wdT x.name), [32]), (some (mrT [45, 62]), [32])] ++ placeQ x.to []) = _
    rw [txtP_app, txt_place]
    simp [txtP, speltP, spelt, wdT, mrT]
  · rw [if_neg h3, if_neg h3]
    show txtP ([(none, [32, 32]), (some (wdT [111, 117, 116]), [32])] ++ (placeQ x.frm [32] ++ [(some (mrT [45, 62]), [32]), (some (wdT x.name), [])])) = _
    rw [txtP_app, txtP_app, txt_place]
    simp [txtP, speltP, spelt, wdT, mrT]
theorem txt_item (x : Itm) : txtP (itemQ x) = itemT x := by
  unfold itemQ itemT
  rw [txtP_app, txtP_app, txtP_app, txt_head, txt_nums]
  have : txtP (withQ x) = withT x := by
    unfold withQ withT
    by_cases h : x.kind = 2 ∧ x.nums ≠ []
    · rw [if_pos h, if_pos h]; simp [txtP, speltP, spelt, wdT]
    · rw [if_neg h, if_neg h]; rfl
  rw [this]
  simp [txtP, speltP, spelt, mrT]
theorem txt_items : ∀ (xs : List Itm), txtP (xs.flatMap itemQ) = xs.flatMap itemT
  | [] => rfl
  | x :: r => by rw [List.flatMap_cons, List.flatMap_cons, txtP_app, txt_items r, txt_item]
/-- The one form is these pieces. -/
theorem txt_form (nm : List UInt8) (L : List (Itm × Value)) : txtP (formQ nm (L.map (·.1))) = formT nm L := by
  unfold formQ formT headS itemsT
  show txtP ([(some (wdT [103, 114, 97, 112, 104]), [32]), (some (wdT nm), [32]), (some (mrT [123]), [10])] ++ ((L.map (·.1)).flatMap itemQ ++ [(some (mrT [125]), [10])])) = _
  rw [txtP_app, txtP_app, txt_items, List.flatMap_map]
  simp [txtP, speltP, spelt, wdT, mrT]
/-! ### The pieces may stand so -/
theorem okPc_cons {t : Option Tok} {g : List UInt8} {r : List Pc} (hg : ∀ c ∈ g, blankB (c.toNat : Int) = true) (hr : okPc r) (ht : ∀ u, t = some u → rightB u = true ∧ fits8 u.num = true ∧ (u.sort = 3 ∨ free (g ++ txtP r))) : okPc ((t, g) :: r) := by
  cases t with
  | none => exact ⟨hg, hr⟩
  | some u => exact ⟨ht u rfl, hg, hr⟩
theorem blank_1 : ∀ c ∈ ([32] : List UInt8), blankB (c.toNat : Int) = true := by intro c hc; simp at hc; subst hc; rfl
theorem blank_2 : ∀ c ∈ ([32, 32] : List UInt8), blankB (c.toNat : Int) = true := by intro c hc; simp at hc; subst hc; rfl
theorem blank_n : ∀ c ∈ ([10] : List UInt8), blankB (c.toNat : Int) = true := by intro c hc; simp at hc; subst hc; rfl
theorem blank_0 : ∀ c ∈ ([] : List UInt8), blankB (c.toNat : Int) = true := by intro c hc; cases hc
theorem free_32 (l : List UInt8) : free (32 :: l) := rfl
theorem free_10 (l : List UInt8) : free (10 :: l) := rfl
theorem ok_word {x g : List UInt8} {r : List Pc} (hx : nameB x = true) (hg : ∀ c ∈ g, blankB (c.toNat : Int) = true) (hf : free (g ++ txtP r)) (hr : okPc r) : okPc ((some (wdT x), g) :: r) :=
  ⟨⟨by unfold rightB wdT; simp [hx], rfl, Or.inr hf⟩, hg, hr⟩
theorem ok_mark {x g : List UInt8} {r : List Pc} (hx : markT x = true) (hg : ∀ c ∈ g, blankB (c.toNat : Int) = true) (hr : okPc r) : okPc ((some (mrT x), g) :: r) :=
  ⟨⟨by unfold rightB mrT; simp [hx], rfl, Or.inl rfl⟩, hg, hr⟩
theorem ok_num {n : Int} {g : List UInt8} {r : List Pc} (hn : fits8 n = true) (hg : ∀ c ∈ g, blankB (c.toNat : Int) = true) (hf : free (g ++ txtP r)) (hr : okPc r) : okPc ((some (nbT n), g) :: r) :=
  ⟨⟨by unfold rightB nbT; simp, hn, Or.inr hf⟩, hg, hr⟩
theorem ok_gap {g : List UInt8} {r : List Pc} (hg : ∀ c ∈ g, blankB (c.toNat : Int) = true) (hr : okPc r) : okPc ((none, g) :: r) := ⟨hg, hr⟩
theorem fits_of {n : Int} (h : -9223372036854775808 ≤ n ∧ n ≤ 9223372036854775807) : fits8 n = true := by
  unfold fits8
  rw [decide_eq_true h.1, decide_eq_true h.2]; rfl
theorem ok_place {p : Plc} {g : List UInt8} {r : List Pc} (hn : nameB p.name = true) (hp : fits8 p.port = true) (hg : ∀ c ∈ g, blankB (c.toNat : Int) = true) (hf : free (g ++ txtP r)) (hr : okPc r) : okPc (placeQ p g ++ r) :=
  ok_word hn blank_0 rfl (ok_mark rfl blank_0 (ok_num hp hg hf hr))
theorem free_nums : ∀ (ns : List Int) (r : List Pc), free (txtP r) → free (txtP (numsQ ns ++ r))
  | [], _, h => h
  | _ :: _, _, _ => rfl
theorem ok_nums : ∀ (ns : List Int) (r : List Pc), (∀ n ∈ ns, fits8 n = true) → free (txtP r) → okPc r → okPc (numsQ ns ++ r)
  | [], r, _, _, hr => hr
  | n :: ns, r, h, hf, hr => ok_gap blank_1 (ok_num (h n (by simp)) blank_0 (free_nums ns r hf) (ok_nums ns r (fun m hm => h m (by simp [hm])) hf hr))
structure FitsX (x : Itm) : Prop where
  frm : fits8 x.frm.port = true
  to : fits8 x.to.port = true
  nums : ∀ n ∈ x.nums, fits8 n = true
theorem ok_item {x : Itm} {r : List Pc} (h : rightX x = true) (hx : FitsX x) (hr : okPc r) : okPc (itemQ x ++ r) := by
  unfold itemQ
  rw [List.append_assoc, List.append_assoc, List.append_assoc]
  have k1 : okPc ([(some (mrT [59]), [10])] ++ r) := ok_mark rfl blank_n hr
  have f1 : free (txtP ([(some (mrT [59]), [10])] ++ r)) := rfl
  have k2 := ok_nums x.nums _ hx.nums f1 k1
  have f2 := free_nums x.nums _ f1
  generalize numsQ x.nums ++ ([(some (mrT [59]), [10])] ++ r) = R at *
  unfold rightX at h
  unfold headQ withQ
  by_cases h1 : x.kind = 1
  · rw [if_pos h1] at h
    simp only [Bool.and_eq_true] at h
    rw [if_pos h1, if_neg (by intro hh; rw [h1] at hh; exact absurd hh.1 (by decide))]
    exact ok_gap blank_2 (ok_word rfl blank_1 rfl (ok_word h.1 blank_1 rfl (ok_mark rfl blank_1 (ok_word h.2.1 blank_0 f2 k2))))
  rw [if_neg h1] at h ⊢
  by_cases h2 : x.kind = 2
  · rw [if_pos h2] at h ⊢
    simp only [Bool.and_eq_true] at h
    have hb := h.2.2
    have key : ∀ R2 : List Pc, okPc R2 → free (txtP R2) → okPc (((none, [32, 32]) :: (some (wdT [101, 100, 103, 101]), [32]) :: (placeQ x.frm [32] ++ (some (mrT [45, 62]), [32]) :: placeQ x.to [])) ++ R2) := fun R2 q1 q2 =>
      ok_gap blank_2 (ok_word rfl blank_1 rfl (by
        show okPc ((placeQ x.frm [32] ++ (some (mrT [45, 62]), [32]) :: placeQ x.to []) ++ R2)
        rw [List.append_assoc]
        exact ok_place hb.1 hx.frm blank_1 rfl (ok_mark rfl blank_1 (ok_place hb.2 hx.to blank_0 q2 q1))))
    by_cases hw : x.nums ≠ []
    · rw [if_pos ⟨h2, hw⟩]
      exact key _ (ok_gap blank_1 (ok_word rfl blank_0 f2 k2)) rfl
    · rw [if_neg (fun hh => hw hh.2)]
      exact key _ k2 f2
  rw [if_neg h2] at h ⊢
  rw [if_neg (show ¬ (x.kind = 2 ∧ x.nums ≠ []) from fun hh => h2 hh.1)]
  by_cases h3 : x.kind = 3
  · rw [if_pos h3] at h ⊢
    simp only [Bool.and_eq_true] at h
    exact ok_gap blank_2 (ok_word rfl blank_1 rfl (ok_word h.1 blank_1 rfl (ok_mark rfl blank_1 (ok_place h.2.2.2 hx.to blank_0 f2 k2))))
  rw [if_neg h3] at h ⊢
  by_cases h4 : x.kind = 4
  · rw [if_pos h4] at h
    simp only [Bool.and_eq_true] at h
    refine ok_gap blank_2 (ok_word rfl blank_1 rfl ?_)
    show okPc ((placeQ x.frm [32] ++ [(some (mrT [45, 62]), [32]), (some (wdT x.name), [])]) ++ R)
    rw [List.append_assoc]
    exact ok_place h.2.2.1 hx.frm blank_1 rfl (ok_mark rfl blank_1 (ok_word h.1 blank_0 f2 k2))
  · rw [if_neg h4] at h; cases h
theorem ok_items : ∀ (xs : List Itm) (r : List Pc), (∀ x ∈ xs, rightX x = true ∧ FitsX x) → okPc r → okPc (xs.flatMap itemQ ++ r)
  | [], r, _, hr => hr
  | x :: xs, r, h, hr => by
    rw [List.flatMap_cons, List.append_assoc]
    exact ok_item (h x (by simp)).1 (h x (by simp)).2 (ok_items xs r (fun y hy => h y (by simp [hy])) hr)
theorem ok_form {nm : List UInt8} {xs : List Itm} (hn : nameB nm = true) (h : ∀ x ∈ xs, rightX x = true ∧ FitsX x) : okPc (formQ nm xs) :=
  ok_word rfl blank_1 rfl (ok_word hn blank_1 rfl (ok_mark rfl blank_n (ok_items xs _ h (ok_mark rfl blank_n trivial))))
end Go.Proofs.YthgblljokonejaaGreatDoor

/- What is written of a sketch is read as the same. No program is called here. -/
namespace Go.Proofs.YthgblljokonejaaGreatDoor
open Go.RowKit

/-! ### The pieces' tokens are read as the same -/
def numsU (ns : List Int) : List Tok := ns.map nbT
def placeU (p : Plc) : List Tok := [wdT p.name, mrT [46], nbT p.port]
def headU (x : Itm) : List Tok :=
  if x.kind = 1 then [wdT [97, 99, 116, 111, 114], wdT x.name, mrT [61], wdT x.tag]
  else if x.kind = 2 then wdT [101, 100, 103, 101] :: (placeU x.frm ++ mrT [45, 62] :: placeU x.to)
  else if x.kind = 3 then wdT [105, 110] :: wdT x.name :: mrT [45, 62] :: placeU x.to
  else wdT [111, 117, 116] :: (placeU x.frm ++ [mrT [45, 62], wdT x.name])
def withU (x : Itm) : List Tok := if x.kind = 2 ∧ x.nums ≠ [] then [wdT [119, 105, 116, 104]] else []
def itemU (x : Itm) : List Tok := headU x ++ (withU x ++ (numsU x.nums ++ [mrT [59]]))
def formU (nm : List UInt8) (xs : List Itm) : List Tok := wdT [103, 114, 97, 112, 104] :: wdT nm :: mrT [123] :: (xs.flatMap itemU ++ [mrT [125]])
theorem toksP_app (a b : List Pc) : toksP (a ++ b) = toksP a ++ toksP b := by unfold toksP; rw [List.filterMap_append]
theorem toks_nums : ∀ ns : List Int, toksP (numsQ ns) = numsU ns
  | [] => rfl
  | n :: r => by
    show toksP ([(none, [32]), (some (nbT n), [])] ++ numsQ r) = nbT n :: numsU r
    rw [toksP_app, toks_nums r]; rfl
theorem toks_item (x : Itm) : toksP (itemQ x) = itemU x := by
  unfold itemQ itemU
  rw [toksP_app, toksP_app, toksP_app, toks_nums]
  have h1 : toksP (headQ x) = headU x := by
    unfold headQ headU
    by_cases h1 : x.kind = 1
    · rw [if_pos h1, if_pos h1]; rfl
    rw [if_neg h1, if_neg h1]
    by_cases h2 : x.kind = 2
    · rw [if_pos h2, if_pos h2]; rfl
    rw [if_neg h2, if_neg h2]
    by_cases h3 : x.kind = 3
    · rw [if_pos h3, if_pos h3]; rfl
    · rw [if_neg h3, if_neg h3]; rfl
  have h2 : toksP (withQ x) = withU x := by
    unfold withQ withU
    by_cases h : x.kind = 2 ∧ x.nums ≠ []
    · rw [if_pos h, if_pos h]; rfl
    · rw [if_neg h, if_neg h]; rfl
  rw [h1, h2]; rfl
theorem toks_items : ∀ xs : List Itm, toksP (xs.flatMap itemQ) = xs.flatMap itemU
  | [] => rfl
  | x :: r => by rw [List.flatMap_cons, List.flatMap_cons, toksP_app, toks_items r, toks_item]
theorem toks_form (nm : List UInt8) (xs : List Itm) : toksP (formQ nm xs) = formU nm xs := by
  unfold formQ formU
  show toksP ([(some (wdT [103, 114, 97, 112, 104]), [32]), (some (wdT nm), [32]), (some (mrT [123]), [10])] ++ (xs.flatMap itemQ ++ [(some (mrT [125]), [10])])) = _
  rw [toksP_app, toksP_app, toks_items]; rfl
def place0 (t : Tok) : Prop := t.place = 0
theorem bare_id {t : Tok} (h : t.place = 0) : bareT t = t := by cases t; simp only at h; subst h; rfl
theorem itemU_place (x : Itm) : ∀ t ∈ itemU x, t.place = 0 := by
  intro t ht
  unfold itemU at ht
  rw [List.mem_append, List.mem_append, List.mem_append] at ht
  have hp : ∀ p : Plc, ∀ t ∈ placeU p, t.place = 0 := fun p t h => by
    simp only [placeU, List.mem_cons, List.not_mem_nil, or_false] at h
    rcases h with rfl | rfl | rfl <;> rfl
  rcases ht with ht | ht | ht | ht
  · unfold headU at ht
    split at ht
    · simp only [List.mem_cons, List.not_mem_nil, or_false] at ht
      rcases ht with rfl | rfl | rfl | rfl <;> rfl
    split at ht
    · simp only [List.mem_cons, List.mem_append] at ht
      rcases ht with rfl | ht | rfl | ht
      · rfl
      · exact hp _ _ ht
      · rfl
      · exact hp _ _ ht
    split at ht
    · simp only [List.mem_cons] at ht
      rcases ht with rfl | rfl | rfl | ht
      · rfl
      · rfl
      · rfl
      · exact hp _ _ ht
    · simp only [List.mem_cons, List.mem_append, List.not_mem_nil, or_false] at ht
      rcases ht with rfl | ht | rfl | rfl
      · rfl
      · exact hp _ _ ht
      · rfl
      · rfl
  · unfold withU at ht
    split at ht
    · simp only [List.mem_cons, List.not_mem_nil, or_false] at ht; subst ht; rfl
    · cases ht
  · unfold numsU at ht
    obtain ⟨n, -, rfl⟩ := List.mem_map.1 ht
    rfl
  · simp only [List.mem_cons, List.not_mem_nil, or_false] at ht; subst ht; rfl
theorem formU_bare (nm : List UInt8) (xs : List Itm) : (formU nm xs).map bareT = formU nm xs := by
  have h : ∀ t ∈ formU nm xs, bareT t = t := fun t ht => by
    unfold formU at ht
    simp only [List.mem_cons, List.mem_append, List.mem_flatMap, List.not_mem_nil, or_false] at ht
    rcases ht with rfl | rfl | rfl | ⟨x, -, hx⟩ | rfl
    · rfl
    · rfl
    · rfl
    · exact bare_id (itemU_place x t hx)
    · rfl
  exact (List.map_congr_left h).trans (List.map_id' _)
theorem nth_drop {ts r : List Tok} {t : Tok} {i : Nat} (h : ts.drop i = t :: r) : nthT ts i = t ∧ ts.drop (i + 1) = r := by
  have h1 : (ts.drop i)[0]? = some t := by rw [h]; rfl
  rw [List.getElem?_drop, Nat.add_zero] at h1
  refine ⟨by unfold nthT; rw [List.getD_eq_getElem?_getD, h1]; rfl, ?_⟩
  rw [← List.drop_drop, h]; rfl
theorem textR_at {ts r : List Tok} {t : Tok} {i : Nat} {x : List UInt8} (h : ts.drop i = t :: r) (hx : t.text = x) : textR ts x i = (some (), i + 1) := by
  unfold textR; rw [(nth_drop h).1, if_pos hx]
theorem textR_wd {ts r : List Tok} {i : Nat} {x : List UInt8} (h : ts.drop i = wdT x :: r) : textR ts x i = (some (), i + 1) := textR_at h rfl
theorem textR_mr {ts r : List Tok} {i : Nat} {x : List UInt8} (h : ts.drop i = mrT x :: r) : textR ts x i = (some (), i + 1) := textR_at h rfl
theorem nameR_at {ts r : List Tok} {x : List UInt8} {i : Nat} (h : ts.drop i = wdT x :: r) : nameR ts i = (some x, i + 1) := by
  unfold nameR; rw [(nth_drop h).1]; rfl
theorem numR_at {ts r : List Tok} {n : Int} {i : Nat} (h : ts.drop i = nbT n :: r) : numR ts i = (some n, i + 1) := by
  unfold numR; rw [(nth_drop h).1]; rfl
theorem numsL_at : ∀ (ns : List Int) (t : Tok) (r : List Tok), t.sort ≠ 2 → numsL (numsU ns ++ t :: r) = ns
  | [], t, r, h => by show (if t.sort = 2 then _ else _) = _; rw [if_neg h]
  | n :: ns, t, r, h => by
    show (if (2 : Int) = 2 then n :: numsL (numsU ns ++ t :: r) else []) = _
    rw [if_pos rfl, numsL_at ns t r h]
theorem numsR_at {ts r : List Tok} {t : Tok} {ns : List Int} {i : Nat} (h : ts.drop i = numsU ns ++ t :: r) (ht : t.sort ≠ 2) : numsR ts i = ns ∧ ts.drop (i + ns.length) = t :: r := by
  refine ⟨by unfold numsR; rw [h]; exact numsL_at ns t r ht, ?_⟩
  rw [← List.drop_drop, h]
  have : (numsU ns).length = ns.length := by unfold numsU; rw [List.length_map]
  rw [← this, List.drop_left]
theorem placeR_at {ts r : List Tok} {p : Plc} {i : Nat} (h : ts.drop i = placeU p ++ r) : placeR ts i = (some (bareP p), i + 1 + 1 + 1) ∧ ts.drop (i + 1 + 1 + 1) = r := by
  have h1 : ts.drop i = wdT p.name :: mrT [46] :: nbT p.port :: r := h
  have h2 := (nth_drop h1).2
  have h3 := (nth_drop h2).2
  have h4 := (nth_drop h3).2
  refine ⟨?_, h4⟩
  unfold placeR
  rw [nameR_at h1, then_some, textR_mr h2, then_some, numR_at h3, then_some, (nth_drop h1).1]
  rfl
theorem abs_bare {p : Plc} (h : absB p = true) : bareP p = noPlc := by
  unfold absB at h
  rw [Bool.and_eq_true, decide_eq_true_iff, decide_eq_true_iff] at h
  obtain ⟨n, q, a⟩ := p
  simp only at h
  obtain ⟨rfl, rfl⟩ := h
  rfl
theorem bare_nums {x : Itm} (h : bareB x = true) : x.tag = [] ∧ x.nums = [] := by
  unfold bareB at h
  rw [Bool.and_eq_true, decide_eq_true_iff, decide_eq_true_iff] at h
  exact ⟨h.1, List.eq_nil_of_length_eq_zero h.2⟩
theorem item_back {ts r : List Tok} {x : Itm} {i : Nat} (hx : rightX x = true) (h : ts.drop i = itemU x ++ r) : ∃ j, itemR ts i = (some (bareI x), j) ∧ ts.drop j = r ∧ (nthT ts i).text ≠ [125] := by
  unfold itemU at h
  rw [List.append_assoc, List.append_assoc, List.append_assoc] at h
  unfold rightX at hx
  unfold headU withU at h
  have semi : ∀ j, ts.drop j = [mrT [59]] ++ r → textR ts [59] j = (some (), j + 1) ∧ ts.drop (j + 1) = r := fun j hj => ⟨textR_at hj rfl, (nth_drop hj).2⟩
  by_cases h1 : x.kind = 1
  · rw [if_pos h1] at hx h
    rw [if_neg (by intro hh; rw [h1] at hh; exact absurd hh.1 (by decide))] at h
    simp only [Bool.and_eq_true] at hx
    have a1 : ts.drop i = wdT [97, 99, 116, 111, 114] :: wdT x.name :: mrT [61] :: wdT x.tag :: (numsU x.nums ++ mrT [59] :: r) := h
    have a2 := (nth_drop a1).2
    have a3 := (nth_drop a2).2
    have a4 := (nth_drop a3).2
    have a5 := (nth_drop a4).2
    obtain ⟨n1, n2⟩ := numsR_at a5 (by decide)
    have e0 : (nthT ts i).text = [97, 99, 116, 111, 114] := by rw [(nth_drop a1).1]; rfl
    obtain ⟨s1, s2⟩ := semi _ n2
    refine ⟨_, ?_, s2, by rw [e0]; decide⟩
    unfold itemR bodyR actorR
    rw [if_pos e0, textR_wd a1, then_some, nameR_at a2, then_some, textR_mr a3, then_some, nameR_at a4, then_some, n1, then_some, s1, then_some, (nth_drop a1).1]
    unfold bareI
    rw [h1, abs_bare hx.2.2.1, abs_bare hx.2.2.2]
    rfl
  rw [if_neg h1] at hx h
  by_cases h2 : x.kind = 2
  · rw [if_pos h2] at hx h
    simp only [Bool.and_eq_true, decide_eq_true_eq] at hx
    rw [List.cons_append, List.append_assoc] at h
    have a1 := h
    have e0 : (nthT ts i).text = [101, 100, 103, 101] := by rw [(nth_drop a1).1]; rfl
    obtain ⟨p1, p2⟩ := placeR_at (nth_drop a1).2
    have p3 := p2
    rw [List.cons_append] at p3
    obtain ⟨q1, q2⟩ := placeR_at (nth_drop p3).2
    have key : ∀ ns j, x.nums = ns → withR ts (i + 1 + 1 + 1 + 1 + 1 + 1 + 1 + 1) = (some ns, j) → ts.drop j = [mrT [59]] ++ r → ∃ j, itemR ts i = (some (bareI x), j) ∧ ts.drop j = r ∧ (nthT ts i).text ≠ [125] := fun ns j hn hw hd => by
      obtain ⟨s1, s2⟩ := semi j hd
      refine ⟨_, ?_, s2, by rw [e0]; decide⟩
      unfold itemR bodyR edgeR
      rw [if_neg (by rw [e0]; decide), if_pos e0, textR_wd a1, then_some, p1, then_some, textR_mr p3, then_some, q1, then_some, hw, then_some, then_some, s1, then_some, (nth_drop a1).1]
      unfold bareI
      rw [h2, hx.1, hx.2.1, hn]
      rfl
    by_cases hw : x.nums ≠ []
    · rw [if_pos ⟨h2, hw⟩] at q2
      have w1 : ts.drop (i + 1 + 1 + 1 + 1 + 1 + 1 + 1 + 1) = wdT [119, 105, 116, 104] :: (numsU x.nums ++ mrT [59] :: r) := q2
      have w2 := (nth_drop w1).2
      match hm : x.nums, hw with
      | n :: ns, _ =>
        rw [hm] at w2
        have w3 : ts.drop (i + 1 + 1 + 1 + 1 + 1 + 1 + 1 + 1 + 1) = nbT n :: (numsU ns ++ mrT [59] :: r) := w2
        obtain ⟨n1, n2⟩ := numsR_at (nth_drop w3).2 (by decide)
        refine key (n :: ns) _ hm ?_ n2
        unfold withR
        rw [if_pos (by rw [(nth_drop w1).1]; rfl), numR_at w3, then_some, n1]
    · have hw' : x.nums = [] := by
        cases hq : x.nums with
        | nil => rfl
        | cons a b => exact absurd (by rw [hq]; exact List.cons_ne_nil _ _) hw
      rw [if_neg (fun hh => hw hh.2), hw'] at q2
      have w1 : ts.drop (i + 1 + 1 + 1 + 1 + 1 + 1 + 1 + 1) = mrT [59] :: r := q2
      refine key [] _ hw' ?_ w1
      unfold withR
      rw [if_neg (by rw [(nth_drop w1).1]; decide)]
  rw [if_neg h2] at hx h
  rw [if_neg (show ¬ (x.kind = 2 ∧ x.nums ≠ []) from fun hh => h2 hh.1)] at h
  by_cases h3 : x.kind = 3
  · rw [if_pos h3] at hx h
    simp only [Bool.and_eq_true] at hx
    obtain ⟨b1, b2⟩ := bare_nums hx.2.1
    rw [b2] at h
    have a1 : ts.drop i = wdT [105, 110] :: wdT x.name :: mrT [45, 62] :: (placeU x.to ++ mrT [59] :: r) := h
    have a2 := (nth_drop a1).2
    have a3 := (nth_drop a2).2
    obtain ⟨p1, p2⟩ := placeR_at (nth_drop a3).2
    have e0 : (nthT ts i).text = [105, 110] := by rw [(nth_drop a1).1]; rfl
    obtain ⟨s1, s2⟩ := semi _ p2
    refine ⟨_, ?_, s2, by rw [e0]; decide⟩
    unfold itemR bodyR inR
    rw [if_neg (by rw [e0]; decide), if_neg (by rw [e0]; decide), if_pos e0, textR_wd a1, then_some, nameR_at a2, then_some, textR_mr a3, then_some, p1, then_some, then_some, s1, then_some, (nth_drop a1).1]
    unfold bareI
    rw [h3, b1, b2, abs_bare hx.2.2.1]
    rfl
  rw [if_neg h3] at hx h
  by_cases h4 : x.kind = 4
  · rw [if_pos h4] at hx
    simp only [Bool.and_eq_true] at hx
    obtain ⟨b1, b2⟩ := bare_nums hx.2.1
    rw [b2] at h
    rw [List.cons_append, List.append_assoc] at h
    have a1 := h
    obtain ⟨p1, p2⟩ := placeR_at (nth_drop a1).2
    have p3 : ts.drop (i + 1 + 1 + 1 + 1) = mrT [45, 62] :: wdT x.name :: mrT [59] :: r := p2
    have p4 := (nth_drop p3).2
    have p5 := (nth_drop p4).2
    have e0 : (nthT ts i).text = [111, 117, 116] := by rw [(nth_drop a1).1]; rfl
    obtain ⟨s1, s2⟩ := semi _ p5
    refine ⟨_, ?_, s2, by rw [e0]; decide⟩
    unfold itemR bodyR outR
    rw [if_neg (by rw [e0]; decide), if_neg (by rw [e0]; decide), if_neg (by rw [e0]; decide), textR_wd a1, then_some, p1, then_some, textR_mr p3, then_some, nameR_at p4, then_some, then_some, s1, then_some, (nth_drop a1).1]
    unfold bareI
    rw [h4, b1, b2, abs_bare hx.2.2.2]
    rfl
  · rw [if_neg h4] at hx; cases hx
theorem items_back {ts : List Tok} : ∀ (xs : List Itm) (n i : Nat) (r : List Tok), (∀ x ∈ xs, rightX x = true) → xs.length < n → ts.drop i = xs.flatMap itemU ++ mrT [125] :: r → ∃ j, itemsF n ts i = (some (xs.map bareI), j) ∧ ts.drop j = mrT [125] :: r
  | [], 0, i, r, _, hn, h => absurd hn (by simp)
  | [], n + 1, i, r, _, _, h => ⟨i, by unfold itemsF; rw [if_pos (by rw [(nth_drop h).1]; rfl)]; rfl, h⟩
  | x :: xs, 0, i, r, _, hn, h => absurd hn (by simp)
  | x :: xs, n + 1, i, r, hx, hn, h => by
    rw [List.flatMap_cons, List.append_assoc] at h
    obtain ⟨j, h1, h2, h3⟩ := item_back (hx x (by simp)) h
    obtain ⟨k, h4, h5⟩ := items_back xs n j r (fun y hy => hx y (by simp [hy])) (by simp at hn; omega) h2
    refine ⟨k, ?_, h5⟩
    unfold itemsF
    rw [if_neg h3, h1, then_some, h4, then_some]
    rfl
theorem itemU_pos (x : Itm) : 0 < (itemU x).length := by
  unfold itemU
  simp only [List.length_append, List.length_cons]
  omega
theorem items_len : ∀ xs : List Itm, xs.length ≤ (xs.flatMap itemU).length
  | [] => Nat.le_refl _
  | x :: r => by
    rw [List.flatMap_cons, List.length_append, List.length_cons]
    have := items_len r; have := itemU_pos x; omega
/-- What is written is read as the same. -/
theorem form_back {nm : List UInt8} {xs : List Itm} (hx : ∀ x ∈ xs, rightX x = true) : ∃ j, sketchR (formU nm xs ++ [noTok]) = (some ⟨nm, xs.map bareI⟩, j) := by
  obtain ⟨ts, hts⟩ : ∃ ts, formU nm xs ++ [noTok] = ts := ⟨_, rfl⟩
  have h0 : ts.drop 0 = wdT [103, 114, 97, 112, 104] :: wdT nm :: mrT [123] :: (xs.flatMap itemU ++ mrT [125] :: [noTok]) := by
    rw [List.drop_zero, ← hts]; unfold formU; simp
  have h1 := (nth_drop h0).2
  have h2 := (nth_drop h1).2
  have h3 := (nth_drop h2).2
  have hlen : xs.length < ts.length := by
    rw [← hts]; unfold formU
    have := items_len xs
    simp only [List.length_append, List.length_cons]
    omega
  obtain ⟨j, h4, h5⟩ := items_back xs ts.length _ [noTok] hx hlen h3
  have h6 := (nth_drop h5).2
  refine ⟨j + 1 + 1, ?_⟩
  rw [hts]
  unfold sketchR
  rw [textR_wd h0, then_some, nameR_at h1, then_some, textR_mr h2, then_some, h4, then_some, textR_mr h5, then_some, if_pos (by rw [(nth_drop h6).1]; rfl)]
/-- A sketch's one form, read. -/
theorem read_form {nm : List UInt8} {xs : List Itm} (hn : nameB nm = true) (h : ∀ x ∈ xs, rightX x = true ∧ FitsX x) (hl : (txtP (formQ nm xs)).length ≤ 1048576) :
    (textG (txtP (formQ nm xs))).err = 0 ∧ ∃ s j, sketchR (textG (txtP (formQ nm xs))).toks = (some s, j) ∧ bareS s = ⟨nm, xs.map bareI⟩ := by
  have h1 := read_pieces (formQ nm xs) 0 (ok_form hn h)
  have h2 : textG (txtP (formQ nm xs)) = ⟨wantP 0 (formQ nm xs), 0, 0⟩ := by
    unfold textG; rw [if_neg (by omega)]; exact h1
  rw [h2]
  refine ⟨rfl, ?_⟩
  simp only
  obtain ⟨j, h3⟩ := form_back (nm := nm) (xs := xs) (fun x hx => (h x hx).1)
  have h4 := sketchR_bare (wantP 0 (formQ nm xs))
  rw [want_bare, toks_form, formU_bare, h3] at h4
  rcases h5 : sketchR (wantP 0 (formQ nm xs)) with ⟨_ | s, k⟩
  · rw [h5] at h4; cases h4
  · rw [h5] at h4
    injection h4 with h6 h7
    exact ⟨s, k, rfl, (Option.some.inj h6).symm⟩
end Go.Proofs.YthgblljokonejaaGreatDoor
