/- Texts of one chain, laid one behind the other. -/
import Derived.Test.YtlnodnkfagehgabDoorChain31
import Derived.Test.YtlnodnkfagehgabDoorChain26
/- What stands ahead of a token, and what comes behind it. No program is called here. -/
namespace Go.Proofs.YtlnodnkfagehgabDoor
open Go.RowKit

/-! ### What is read hangs on the tokens up to where it ends -/
def Loc {α : Type} (R : List Tok → Nat → Rd α) : Prop := ∀ (ts ts' : List Tok) (i j : Nat) (o : Option α), (∀ k, k ≤ j → nthT ts k = nthT ts' k) → R ts i = (o, j) → R ts' i = (o, j) ∧ i ≤ j
theorem loc_then {α β : Type} {R : List Tok → Nat → Rd α} {F : List Tok → α → Nat → Rd β} (h : Loc R) (hF : ∀ a, Loc fun ts m => F ts a m) : Loc fun ts i => andThen (R ts i) (F ts) := by
  intro ts ts' i j o hag he
  rcases hr : R ts i with ⟨_ | a, m⟩
  · simp only [hr] at he
    injection he with h1 h2
    have h2 : m = j := h2
    subst h2
    obtain ⟨h3, h4⟩ := h ts ts' i m none hag hr
    refine ⟨?_, h4⟩
    show andThen (R ts' i) (F ts') = _
    rw [h3]
    have h1 : (none : Option β) = o := h1
    rw [← h1]; rfl
  · simp only [hr] at he
    have he : F ts a m = (o, j) := he
    obtain ⟨h3, h4⟩ := hF a ts ts' m j o hag he
    obtain ⟨h5, h6⟩ := h ts ts' i m (some a) (fun k hk => hag k (by omega)) hr
    refine ⟨?_, by omega⟩
    show andThen (R ts' i) (F ts') = _
    rw [h5]; exact h3
theorem loc_text (x : List UInt8) : Loc fun ts i => textR ts x i := by
  intro ts ts' i j o hag he
  have he : textR ts x i = (o, j) := he
  show textR ts' x i = (o, j) ∧ i ≤ j
  unfold textR at he ⊢
  split at he
  · rename_i h
    injection he with h1 h2
    subst h1; subst h2
    rw [← hag i (by omega), if_pos h]
    exact ⟨rfl, by omega⟩
  · rename_i h
    injection he with h1 h2
    subst h1; subst h2
    rw [← hag i (Nat.le_refl _), if_neg h]
    exact ⟨rfl, Nat.le_refl _⟩
theorem loc_name : Loc nameR := by
  intro ts ts' i j o hag he
  unfold nameR at he ⊢
  split at he
  · rename_i h
    injection he with h1 h2
    subst h1; subst h2
    rw [← hag i (by omega), if_pos h]
    exact ⟨rfl, by omega⟩
  · rename_i h
    injection he with h1 h2
    subst h1; subst h2
    rw [← hag i (Nat.le_refl _), if_neg h]
    exact ⟨rfl, Nat.le_refl _⟩
theorem loc_num : Loc numR := by
  intro ts ts' i j o hag he
  unfold numR at he ⊢
  split at he
  · rename_i h
    injection he with h1 h2
    subst h1; subst h2
    rw [← hag i (by omega), if_pos h]
    exact ⟨rfl, by omega⟩
  · rename_i h
    injection he with h1 h2
    subst h1; subst h2
    rw [← hag i (Nat.le_refl _), if_neg h]
    exact ⟨rfl, Nat.le_refl _⟩
theorem in_len {ts : List Tok} {i : Nat} (h : (nthT ts i).sort = 2) : i < ts.length := by
  rcases Nat.lt_or_ge i ts.length with h1 | h1
  · exact h1
  · have : nthT ts i = noTok := by unfold nthT; rw [List.getD_eq_getElem?_getD, List.getElem?_eq_none h1]; rfl
    rw [this] at h; exact absurd h (by decide)
theorem nums_agree : ∀ (n : Nat) (ts ts' : List Tok) (i : Nat), (numsR ts i).length = n → (∀ k, k ≤ i + n → nthT ts k = nthT ts' k) → numsR ts' i = numsR ts i
  | 0, ts, ts', i, hn, hag => by
    have h1 : (nthT ts i).sort ≠ 2 := fun h => by rw [nums_step (in_len h) h] at hn; simp at hn
    rw [nums_stop h1, nums_stop (by rw [← hag i (by omega)]; exact h1)]
  | n + 1, ts, ts', i, hn, hag => by
    have h1 : (nthT ts i).sort = 2 := by
      by_cases h : (nthT ts i).sort = 2
      · exact h
      · rw [nums_stop h] at hn; simp at hn
    have h2 : (nthT ts' i).sort = 2 := by rw [← hag i (by omega)]; exact h1
    rw [nums_step (in_len h1) h1] at hn ⊢
    rw [nums_step (in_len h2) h2, ← hag i (by omega), nums_agree n ts ts' (i + 1) (by simp at hn; exact hn) (fun k hk => hag k (by omega))]
theorem loc_place : Loc placeR := by
  intro ts ts' i j o hag he
  have key : ∀ p : Int, Loc fun ts i => andThen (nameR ts i) fun n j => andThen (textR ts [46] j) fun _ j => andThen (numR ts j) fun q j => ((some ⟨n, q, p⟩, j) : Rd Plc) := fun p =>
    loc_then loc_name fun n => loc_then (loc_text [46]) fun _ => loc_then loc_num fun q => fun ts ts' i j o _ he => by
      injection he with h1 h2
      subst h1; subst h2
      exact ⟨rfl, Nat.le_refl _⟩
  obtain ⟨h1, h2⟩ := key (nthT ts i).place ts ts' i j o hag he
  refine ⟨?_, h2⟩
  unfold placeR
  rw [← hag i h2]
  exact h1
theorem loc_with : Loc withR := by
  intro ts ts' i j o hag he
  unfold withR at he ⊢
  split at he
  · rename_i h
    have key : Loc fun ts i => andThen (numR ts i) fun x k => ((some (x :: numsR ts k), k + (numsR ts k).length) : Rd (List Int)) :=
      loc_then loc_num fun x => fun ts ts' i j o hag he => by
        injection he with h1 h2
        have h2 : i + (numsR ts i).length = j := h2
        have h3 := nums_agree _ ts ts' i rfl (fun k hk => hag k (by omega))
        refine ⟨?_, by omega⟩
        show (some (x :: numsR ts' i), i + (numsR ts' i).length) = _
        rw [h3, ← h1, ← h2]
    obtain ⟨h1, h2⟩ := key ts ts' (i + 1) j o hag he
    rw [← hag i (by omega), if_pos h]
    exact ⟨h1, by omega⟩
  · rename_i h
    injection he with h1 h2
    subst h1; subst h2
    rw [← hag i (Nat.le_refl _), if_neg h]
    exact ⟨rfl, Nat.le_refl _⟩
theorem loc_some {α : Type} (a : α) : Loc fun _ j => ((some a, j) : Rd α) := fun _ _ i j o _ he => by
  injection he with h1 h2
  subst h1; subst h2
  exact ⟨rfl, Nat.le_refl _⟩
theorem loc_actor (p : Int) : Loc fun ts i => andThen (textR ts [97, 99, 116, 111, 114] i) fun _ j => andThen (nameR ts j) fun n j => andThen (textR ts [61] j) fun _ j => andThen (nameR ts j) fun t j => ((some ⟨1, n, t, numsR ts j, noPlc, noPlc, p⟩, j + (numsR ts j).length) : Rd Itm) :=
  loc_then (loc_text _) fun _ => loc_then loc_name fun n => loc_then (loc_text _) fun _ => loc_then loc_name fun t => fun ts ts' i j o hag he => by
    injection he with h1 h2
    have h2 : i + (numsR ts i).length = j := h2
    have h3 := nums_agree _ ts ts' i rfl (fun k hk => hag k (by omega))
    refine ⟨?_, by omega⟩
    show (some (⟨1, n, t, numsR ts' i, noPlc, noPlc, p⟩ : Itm), i + (numsR ts' i).length) = _
    rw [h3, ← h1, ← h2]
theorem loc_edge (p : Int) : Loc fun ts i => andThen (textR ts [101, 100, 103, 101] i) fun _ j => andThen (placeR ts j) fun f j => andThen (textR ts [45, 62] j) fun _ j => andThen (placeR ts j) fun t j => andThen (withR ts j) fun xs j => ((some ⟨2, [], [], xs, f, t, p⟩, j) : Rd Itm) :=
  loc_then (loc_text _) fun _ => loc_then loc_place fun _ => loc_then (loc_text _) fun _ => loc_then loc_place fun _ => loc_then loc_with fun _ => loc_some _
theorem loc_in (p : Int) : Loc fun ts i => andThen (textR ts [105, 110] i) fun _ j => andThen (nameR ts j) fun n j => andThen (textR ts [45, 62] j) fun _ j => andThen (placeR ts j) fun t j => ((some ⟨3, n, [], [], noPlc, t, p⟩, j) : Rd Itm) :=
  loc_then (loc_text _) fun _ => loc_then loc_name fun _ => loc_then (loc_text _) fun _ => loc_then loc_place fun _ => loc_some _
theorem loc_out (p : Int) : Loc fun ts i => andThen (textR ts [111, 117, 116] i) fun _ j => andThen (placeR ts j) fun f j => andThen (textR ts [45, 62] j) fun _ j => andThen (nameR ts j) fun n j => ((some ⟨4, n, [], [], f, noPlc, p⟩, j) : Rd Itm) :=
  loc_then (loc_text _) fun _ => loc_then loc_place fun _ => loc_then (loc_text _) fun _ => loc_then loc_name fun _ => loc_some _
theorem loc_body : Loc bodyR := by
  intro ts ts' i j o hag he
  unfold bodyR at he ⊢
  split at he
  · rename_i h
    obtain ⟨h1, h2⟩ := loc_actor (nthT ts i).place ts ts' i j o hag he
    have e := hag i h2
    rw [← e, if_pos h]
    unfold actorR
    rw [← e]
    exact ⟨h1, h2⟩
  rename_i n1
  split at he
  · rename_i h
    obtain ⟨h1, h2⟩ := loc_edge (nthT ts i).place ts ts' i j o hag he
    have e := hag i h2
    rw [← e, if_neg n1, if_pos h]
    unfold edgeR
    rw [← e]
    exact ⟨h1, h2⟩
  rename_i n2
  split at he
  · rename_i h
    obtain ⟨h1, h2⟩ := loc_in (nthT ts i).place ts ts' i j o hag he
    have e := hag i h2
    rw [← e, if_neg n1, if_neg n2, if_pos h]
    unfold inR
    rw [← e]
    exact ⟨h1, h2⟩
  · rename_i n3
    obtain ⟨h1, h2⟩ := loc_out (nthT ts i).place ts ts' i j o hag he
    have e := hag i h2
    rw [← e, if_neg n1, if_neg n2, if_neg n3]
    unfold outR
    rw [← e]
    exact ⟨h1, h2⟩
theorem loc_item : Loc itemR := loc_then loc_body fun x => loc_then (loc_text _) fun _ => loc_some x
theorem loc_items : ∀ n, Loc (itemsF n)
  | 0 => fun ts ts' i j o _ he => by
    injection he with h1 h2
    have h2 : i = j := h2
    have h1 : (none : Option (List Itm)) = o := h1
    exact ⟨by show (none, i) = _; rw [h1, h2], by omega⟩
  | n + 1 => fun ts ts' i j o hag he => by
    unfold itemsF at he ⊢
    split at he
    · rename_i h
      injection he with h1 h2
      subst h1; subst h2
      rw [← hag i (Nat.le_refl _), if_pos h]
      exact ⟨rfl, Nat.le_refl _⟩
    · rename_i h
      have key : Loc fun ts i => andThen (itemR ts i) fun x j => andThen (itemsF n ts j) fun xs k => ((some (x :: xs), k) : Rd (List Itm)) := loc_then loc_item fun x => loc_then (loc_items n) fun xs => loc_some _
      obtain ⟨h1, h2⟩ := key ts ts' i j o hag he
      rw [← hag i h2, if_neg h]
      exact ⟨h1, h2⟩
theorem items_fuel (ts : List Tok) : ∀ (n m i j : Nat) (o : Option (List Itm)), j - i < n → j - i < m → itemsF n ts i = (o, j) → itemsF m ts i = (o, j)
  | 0, _, _, _, _, h, _, _ => by omega
  | n + 1, 0, _, _, _, _, h, _ => by omega
  | n + 1, m + 1, i, j, o, h1, h2, he => by
    unfold itemsF at he ⊢
    split at he
    · rename_i h
      rw [if_pos h]; exact he
    · rename_i h
      rw [if_neg h]
      rcases hr : itemR ts i with ⟨_ | x, k⟩
      · rw [hr] at he; exact he
      · rw [hr] at he
        have hlt := itemR_lt hr
        have he : andThen (itemsF n ts k) (fun xs k => ((some (x :: xs), k) : Rd (List Itm))) = (o, j) := he
        show andThen (itemsF m ts k) _ = _
        rcases hq : itemsF n ts k with ⟨_ | xs, q⟩
        · rw [hq] at he
          injection he with h3 h4
          have h4 : q = j := h4
          subst h4
          have hkq := (loc_items n ts ts k q none (fun _ _ => rfl) hq).2
          rw [items_fuel ts n m k q none (by omega) (by omega) hq]
          rw [← h3]; rfl
        · rw [hq] at he
          injection he with h3 h4
          have h4 : q = j := h4
          subst h4
          have hkq := (loc_items n ts ts k q _ (fun _ _ => rfl) hq).2
          rw [items_fuel ts n m k q _ (by omega) (by omega) hq]
          rw [← h3]; rfl
/-- Refused at a token: so it is refused there, whatever comes behind that token. -/
theorem sketch_loc {ts ts' : List Tok} {j : Nat} (hj : j < ts.length) (hj' : j < ts'.length) (hag : ∀ k, k ≤ j → nthT ts k = nthT ts' k) (h : sketchR ts = (none, j)) : sketchR ts' = (none, j) := by
  have key : ∀ n, Loc fun ts i => andThen (textR ts [103, 114, 97, 112, 104] i) fun _ i => andThen (nameR ts i) fun nm i => andThen (textR ts [123] i) fun _ i => andThen (itemsF n ts i) fun xs i => andThen (textR ts [125] i) fun _ i => ((if (nthT ts i).sort = 0 then (some ⟨nm, xs⟩, i + 1) else (none, i)) : Rd Skt) := fun n =>
    loc_then (loc_text _) fun _ => loc_then loc_name fun nm => loc_then (loc_text _) fun _ => loc_then (loc_items n) fun xs => loc_then (loc_text _) fun _ => fun ts ts' i j o hag he => by
      simp only at he ⊢
      split at he
      · rename_i h
        injection he with h1 h2
        subst h1; subst h2
        rw [← hag i (by omega), if_pos h]
        exact ⟨rfl, by omega⟩
      · rename_i h
        injection he with h1 h2
        subst h1; subst h2
        rw [← hag i (Nat.le_refl _), if_neg h]
        exact ⟨rfl, Nat.le_refl _⟩
  have h1 := (key ts.length ts ts' 0 j none hag h).1
  simp only at h1
  unfold sketchR
  rcases a1 : textR ts' [103, 114, 97, 112, 104] 0 with ⟨_ | u, i1⟩
  · rw [a1] at h1; exact h1
  rw [a1] at h1
  rw [then_some] at h1 ⊢
  rcases a2 : nameR ts' i1 with ⟨_ | nm, i2⟩
  · rw [a2] at h1; exact h1
  rw [a2] at h1
  rw [then_some] at h1 ⊢
  rcases a3 : textR ts' [123] i2 with ⟨_ | u3, i3⟩
  · rw [a3] at h1; exact h1
  rw [a3] at h1
  rw [then_some] at h1 ⊢
  rcases a4 : itemsF ts.length ts' i3 with ⟨o, i4⟩
  have hle : i4 ≤ j := by
    rw [a4] at h1
    cases o with
    | none =>
      injection h1 with _ h2
      have h2 : i4 = j := h2
      omega
    | some xs =>
      rw [then_some] at h1
      have k2 : Loc fun ts i => andThen (textR ts [125] i) fun _ i => ((if (nthT ts i).sort = 0 then (some ⟨nm, xs⟩, i + 1) else (none, i)) : Rd Skt) := loc_then (loc_text _) fun _ => fun ts ts' i j o hag he => by
        simp only at he ⊢
        split at he
        · rename_i h
          injection he with h1 h2
          subst h1; subst h2
          rw [← hag i (by omega), if_pos h]
          exact ⟨rfl, by omega⟩
        · rename_i h
          injection he with h1 h2
          subst h1; subst h2
          rw [← hag i (Nat.le_refl _), if_neg h]
          exact ⟨rfl, Nat.le_refl _⟩
      exact (k2 ts' ts' i4 j none (fun _ _ => rfl) h1).2
  rw [items_fuel ts' ts.length ts'.length i3 i4 o (by omega) (by omega) a4]
  rw [a4] at h1
  exact h1
/-- What stands up to a token's end has the tokens up to it. -/
theorem all_cut : ∀ (n p : Nat) (x : List UInt8), x.length ≤ n → (allL p x).err = 0 → ∀ (i q : Nat) (t : Tok), (allL p x).toks[i]? = some t → t.sort ≠ 0 → t.place = ((p + q : Nat) : Int) →
    allL p (x.take (q + (spelt t).length)) = ⟨(allL p x).toks.take (i + 1) ++ [⟨0, [], 0, ((p + (q + (spelt t).length) : Nat) : Int)⟩], 0, 0⟩
  | n, p, x, hn, he, i, q, t, hi, hs, hq => by
    by_cases h1 : x.drop (skipN false x) = []
    · rw [allL_end h1] at hi
      match i, hi with
      | 0, hi =>
        simp only [List.getElem?_cons_zero, Option.some.injEq] at hi
        subst hi
        exact absurd rfl hs
      | i + 1, hi => simp at hi
    · by_cases h2 : (tokO (x.drop (skipN false x))).err = 0
      · match n, hn with
        | 0, hn => exact absurd (by rw [List.eq_nil_of_length_eq_zero (Nat.le_zero.1 hn)]; rfl) h1
        | n + 1, hn =>
          obtain ⟨hs1, hs2, -⟩ := tok_some h2
          have hsp := (tok_spelt h2).1
          have hlen : (x.drop (skipN false x)).length = x.length - skipN false x := List.length_drop
          have ha := allL_tok (p := p) h1 h2
          have hcut := fun j => cut_tok p j h1 h2
          have ih := all_cut n (p + skipN false x + (tokO (x.drop (skipN false x))).n) (x.drop (skipN false x + (tokO (x.drop (skipN false x))).n)) (by rw [List.length_drop]; omega)
          have hpl := all_places (x.drop (skipN false x + (tokO (x.drop (skipN false x))).n)).length (p + skipN false x + (tokO (x.drop (skipN false x))).n) _ (Nat.le_refl _)
          rw [ha] at he hi ⊢
          match i, hi with
          | 0, hi =>
            have hq2 : q = skipN false x ∧ spelt t = spelt (tokO (x.drop (skipN false x))).tok ∧ ((allL (p + skipN false x + (tokO (x.drop (skipN false x))).n) (x.drop (skipN false x + (tokO (x.drop (skipN false x))).n))).cons { (tokO (x.drop (skipN false x))).tok with place := ((p + skipN false x : Nat) : Int) }).toks.take 1 = [{ (tokO (x.drop (skipN false x))).tok with place := ((p + skipN false x : Nat) : Int) }] := by
              generalize allL (p + skipN false x + (tokO (x.drop (skipN false x))).n) (x.drop (skipN false x + (tokO (x.drop (skipN false x))).n)) = g at he hi ⊢
              unfold Got.cons at he hi ⊢
              by_cases hg : g.err = 0
              · rw [if_pos hg] at hi ⊢
                simp only [List.getElem?_cons_zero, Option.some.injEq] at hi
                subst hi
                simp only at hq
                refine ⟨by omega, rfl, rfl⟩
              · rw [if_neg hg] at he; exact absurd he hg
            obtain ⟨hq2, hq3, hq4⟩ := hq2
            have hl3 : (spelt t).length = (tokO (x.drop (skipN false x))).n := by
              rw [hq3, hsp, List.length_take]; omega
            rw [Nat.zero_add, hq4, hl3, hq2]
            have h9 := hcut 0
            rw [Nat.add_zero, List.take_zero] at h9
            rw [h9]
            have e9 : p + skipN false x + (tokO (x.drop (skipN false x))).n = p + (skipN false x + (tokO (x.drop (skipN false x))).n) := by omega
            rw [e9]
            rfl
          | i + 1, hi =>
            have hg : (allL (p + skipN false x + (tokO (x.drop (skipN false x))).n) (x.drop (skipN false x + (tokO (x.drop (skipN false x))).n))).err = 0 := by
              unfold Got.cons at he
              by_cases hg : (allL (p + skipN false x + (tokO (x.drop (skipN false x))).n) (x.drop (skipN false x + (tokO (x.drop (skipN false x))).n))).err = 0
              · exact hg
              · rw [if_neg hg] at he; exact absurd he hg
            have hi2 : (allL (p + skipN false x + (tokO (x.drop (skipN false x))).n) (x.drop (skipN false x + (tokO (x.drop (skipN false x))).n))).toks[i]? = some t := by
              unfold Got.cons at hi
              rw [if_pos hg] at hi
              simpa using hi
            have hm := hpl t (List.mem_of_getElem? hi2)
            have hj : ∃ j, q = skipN false x + (tokO (x.drop (skipN false x))).n + j := ⟨q - (skipN false x + (tokO (x.drop (skipN false x))).n), by omega⟩
            obtain ⟨j, rfl⟩ := hj
            have hr := ih hg i j t hi2 hs (by rw [hq]; congr 1; omega)
            rw [show skipN false x + (tokO (x.drop (skipN false x))).n + j + (spelt t).length = skipN false x + (tokO (x.drop (skipN false x))).n + (j + (spelt t).length) by omega, hcut (j + (spelt t).length), hr]
            generalize allL (p + skipN false x + (tokO (x.drop (skipN false x))).n) (x.drop (skipN false x + (tokO (x.drop (skipN false x))).n)) = g at hg
            have e9 : ((p + skipN false x + (tokO (x.drop (skipN false x))).n + (j + (spelt t).length) : Nat) : Int) = ((p + (skipN false x + (tokO (x.drop (skipN false x))).n + (j + (spelt t).length)) : Nat) : Int) := by congr 1; omega
            rw [e9]
            unfold Got.cons
            rw [if_pos hg]
            rfl
      · rw [allL_err h1 h2] at he; exact absurd he h2
theorem nth_take_app {ts us : List Tok} {j k : Nat} (hj : j < ts.length) (hk : k ≤ j) : nthT (ts.take (j + 1) ++ us) k = nthT ts k := by
  unfold nthT
  rw [List.getD_eq_getElem?_getD, List.getD_eq_getElem?_getD, List.getElem?_append_left (by rw [List.length_take]; omega), List.getElem?_take_of_lt (by omega)]
/-- What stands ahead of a token that is refused is read, or refused at its end. -/
theorem ahead_prefix {ts : List Tok} {j : Nat} {q : Int} (hE : Ended (ts.take j ++ [⟨0, [], 0, q⟩])) (hj : j < ts.length) (h : sketchR ts = (none, j)) (hin : ∀ {us : List Tok} {k : Nat}, Ended us → sketchR us = (none, k) → k < us.length) :
    (∃ s k, sketchR (ts.take j ++ [⟨0, [], 0, q⟩]) = (some s, k)) ∨ sketchR (ts.take j ++ [⟨0, [], 0, q⟩]) = (none, j) := by
  rcases hs : sketchR (ts.take j ++ [⟨0, [], 0, q⟩]) with ⟨_ | s, k⟩
  · right
    have hk := hin hE hs
    rw [List.length_append, List.length_take, List.length_cons, List.length_nil, Nat.min_eq_left (by omega)] at hk
    rcases Nat.lt_or_ge k j with h1 | h1
    · have h2 := sketch_loc (ts := ts.take j ++ [⟨0, [], 0, q⟩]) (ts' := ts) (j := k) (by rw [List.length_append, List.length_take, List.length_cons, List.length_nil]; omega) (by omega) (fun m hm => by
        unfold nthT
        rw [List.getD_eq_getElem?_getD, List.getD_eq_getElem?_getD, List.getElem?_append_left (by rw [List.length_take]; omega), List.getElem?_take_of_lt (by omega)]) hs
      rw [h] at h2
      injection h2 with _ h3
      omega
    · have : k = j := by omega
      subst this
      exact hs
  · exact .inl ⟨s, k, hs⟩
end Go.Proofs.YtlnodnkfagehgabDoor
