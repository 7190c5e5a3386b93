/- Texts of one chain, laid one behind the other. -/
import Derived.Test.YthgblljokonejaaGreatDoorChain10
/- Plain numbers as text, and tokens as they are written. No program is named here. -/
namespace Go.Proofs.YthgblljokonejaaGreatDoor
open Go.RowKit

def dig (k : Nat) : UInt8 := UInt8.ofNat (48 + k)
theorem dig_nat {k : Nat} (h : k < 10) : (dig k).toNat = 48 + k := by
  unfold dig
  rw [UInt8.toNat_ofNat']
  omega
theorem dig_back {c : UInt8} (h : 48 ≤ c.toNat ∧ c.toNat ≤ 57) : dig (c.toNat - 48) = c := by
  apply UInt8.toNat.inj
  rw [dig_nat (by omega)]
  omega
def natF : Nat → Nat → List UInt8
  | 0, _ => []
  | f + 1, n => if n = 0 then [] else natF f (n / 10) ++ [dig (n % 10)]
/-- A number above 0 as text (0: nothing). -/
def natS (n : Nat) : List UInt8 := natF (n + 1) n
theorem natF_fuel : ∀ (f g n : Nat), n < f → n < g → natF f n = natF g n
  | 0, _, _, h, _ => by omega
  | _ + 1, 0, _, _, h => by omega
  | f + 1, g + 1, n, hf, hg => by
    unfold natF
    by_cases h : n = 0
    · rw [if_pos h, if_pos h]
    · rw [if_neg h, if_neg h, natF_fuel f g (n / 10) (by omega) (by omega)]
theorem natS_zero : natS 0 = [] := rfl
theorem natS_pos {n : Nat} (h : n ≠ 0) : natS n = natS (n / 10) ++ [dig (n % 10)] := by
  have e : natS n = natF n (n / 10) ++ [dig (n % 10)] := by
    unfold natS
    rw [natF, if_neg h]
  rw [e]
  unfold natS
  rw [natF_fuel n (n / 10 + 1) (n / 10) (by omega) (by omega)]
/-- A whole number as text. -/
def intS (v : Int) : List UInt8 := if v = 0 then [48] else sgn (decide (v < 0)) ++ natS v.natAbs
theorem decV_append : ∀ (xs ys : List UInt8) (a : Int), decV a (xs ++ ys) = decV (decV a xs) ys
  | [], _, _ => rfl
  | c :: r, ys, a => by rw [List.cons_append, decV, decV, decV_append r ys]
theorem natS_facts : ∀ (m n : Nat), n ≤ m → allD (natS n) ∧ decV 0 (natS n) = (n : Int) ∧ (0 < n → natS n ≠ [] ∧ by8 (natS n) 0 ≠ 48)
  | 0, n, h => by
    have : n = 0 := by omega
    subst this
    exact ⟨(fun c hc => by cases hc), rfl, (fun h => by omega)⟩
  | m + 1, n, h => by
    by_cases h0 : n = 0
    · subst h0
      exact ⟨(fun c hc => by cases hc), rfl, (fun h => by omega)⟩
    · obtain ⟨a1, a2, a3⟩ := natS_facts m (n / 10) (by omega)
      have hd := dig_nat (k := n % 10) (by omega)
      rw [natS_pos h0]
      refine ⟨?_, ?_, fun _ => ⟨by simp, ?_⟩⟩
      · intro c hc
        rcases List.mem_append.1 hc with hc | hc
        · exact a1 c hc
        · simp only [List.mem_cons, List.not_mem_nil, or_false] at hc
          subst hc
          rw [hd]; omega
      · rw [decV_append, a2]
        show (((n / 10 : Nat) : Int)) * 10 + (((dig (n % 10)).toNat : Int) - 48) = _
        rw [hd]; omega
      · by_cases h1 : n / 10 = 0
        · rw [h1, natS_zero, List.nil_append, by8_zero, hd]
          omega
        · obtain ⟨b1, b2⟩ := a3 (by omega)
          cases hc : natS (n / 10) with
          | nil => exact absurd hc b1
          | cons c r =>
            rw [hc] at b2
            exact b2
theorem natS_back : ∀ (m : Nat) (ds : List UInt8), ds.length ≤ m → ds ≠ [] → allD ds → by8 ds 0 ≠ 48 → natS (decV 0 ds).toNat = ds ∧ 0 < decV 0 ds
  | m, ds, hm, hne, hd, h48 => by
    rcases List.eq_nil_or_concat ds with h | ⟨xs, c, h⟩
    · exact absurd h hne
    · rw [List.concat_eq_append] at h
      subst h
      have hc := hd c (by simp)
      have hdx : allD xs := fun e he => hd e (by simp [he])
      rw [decV_append]
      have e1 : decV (decV 0 xs) [c] = decV 0 xs * 10 + ((c.toNat : Int) - 48) := rfl
      rw [e1]
      cases xs with
      | nil =>
        have e2 : decV 0 ([] : List UInt8) = 0 := rfl
        rw [e2]
        have h1 : (c.toNat : Int) ≠ 48 := h48
        have h2 : ((0 : Int) * 10 + ((c.toNat : Int) - 48)).toNat = c.toNat - 48 := by omega
        refine ⟨?_, by omega⟩
        rw [h2, natS_pos (by omega)]
        have h3 : (c.toNat - 48) / 10 = 0 := by omega
        have h4 : (c.toNat - 48) % 10 = c.toNat - 48 := by omega
        rw [h3, h4, natS_zero, dig_back hc]
      | cons d r =>
        match m, hm with
        | 0, hm => simp at hm
        | m + 1, hm =>
          obtain ⟨i1, i2⟩ := natS_back m (d :: r) (by simp at hm ⊢; omega) (by simp) hdx h48
          generalize decV 0 (d :: r) = v at *
          refine ⟨?_, by omega⟩
          have h2 : (v * 10 + ((c.toNat : Int) - 48)).toNat = v.toNat * 10 + (c.toNat - 48) := by omega
          rw [h2, natS_pos (by omega)]
          have h3 : (v.toNat * 10 + (c.toNat - 48)) / 10 = v.toNat := by omega
          have h4 : (v.toNat * 10 + (c.toNat - 48)) % 10 = c.toNat - 48 := by omega
          rw [h3, h4, i1, dig_back hc]
/-- What is read as a number is written as it stood. -/
theorem num_spelt {neg : Bool} {ds : List UInt8} {v : Int} (hne : ds ≠ []) (hd : allD ds) (h : numO neg ds = some v) : intS v = sgn neg ++ ds ∧ fits8 v = true := by
  unfold numO at h
  split at h
  · rename_i hc
    rw [Bool.and_eq_true] at hc
    obtain ⟨ho, hf⟩ := hc
    have hv : signed neg (decV 0 ds) = v := Option.some.inj h
    rw [hv] at hf
    refine ⟨?_, hf⟩
    by_cases h48 : by8 ds 0 = 48
    · unfold oneB at ho
      rw [decide_eq_true h48] at ho
      have ho2 : (decide (ds.length = 1) && !neg) = true := ho
      rw [Bool.and_eq_true, decide_eq_true_iff] at ho2
      obtain ⟨hl, hn⟩ := ho2
      have hn' : neg = false := by simpa using hn
      subst hn'
      match ds, hl with
      | [c], _ =>
        have hc : (c.toNat : Int) = 48 := h48
        have ec : c = 48 := by apply UInt8.toNat.inj; show c.toNat = 48; omega
        subst ec
        have : v = 0 := by rw [← hv]; rfl
        subst this
        rfl
    · obtain ⟨b1, b2⟩ := natS_back ds.length ds (Nat.le_refl _) hne hd h48
      unfold intS
      cases neg
      · have hv2 : decV 0 ds = v := hv
        rw [hv2] at b1 b2
        rw [if_neg (by omega), decide_eq_false (by omega)]
        have : v.natAbs = v.toNat := by omega
        rw [this, b1]
      · have hv2 : -(decV 0 ds) = v := hv
        rw [if_neg (by omega), decide_eq_true (by omega)]
        have : v.natAbs = (decV 0 ds).toNat := by omega
        rw [this, b1]
  · cases h
/-- A token as it is written. -/
def spelt (t : Tok) : List UInt8 := if t.sort = 2 then intS t.num else t.text
def markT (s : List UInt8) : Bool := decide (s = [123]) || decide (s = [125]) || decide (s = [61]) || decide (s = [59]) || decide (s = [46]) || decide (s = [45, 62])
theorem row_all (p : Int → Bool) : ∀ l : List UInt8, rowN p (l.take (rowN p l)) = rowN p l
  | [] => rfl
  | c :: r => by
    by_cases h : p (c.toNat : Int) = true
    · have e : ∀ r, rowN p (c :: r) = rowN p r + 1 := fun r => by rw [rowN, if_pos h]
      rw [e, List.take_succ_cons, e, row_all p r]
    · have e : ∀ r, rowN p (c :: r) = 0 := fun r => by rw [rowN, if_neg h]
      rw [e, List.take_zero]; rfl
theorem take_first {l : List UInt8} (h : l ≠ []) : ∃ c r, l = c :: r := by
  cases l with
  | nil => exact absurd rfl h
  | cons c r => exact ⟨c, r, rfl⟩
/-- What a token that is read is written as: just what stands there; and it is a token that may be. -/
theorem tok_spelt {r : List UInt8} (he : (tokO r).err = 0) : spelt (tokO r).tok = r.take (tokO r).n ∧
    (((tokO r).tok.sort = 1 ∧ (tokO r).tok.num = 0 ∧ (tokO r).tok.text.length ≤ 16 ∧ letB (by8 (tokO r).tok.text 0) = true ∧ rowN wordB (tokO r).tok.text = (tokO r).tok.text.length) ∨
     ((tokO r).tok.sort = 2 ∧ (tokO r).tok.text = [] ∧ fits8 (tokO r).tok.num = true) ∨
     ((tokO r).tok.sort = 3 ∧ (tokO r).tok.num = 0 ∧ markT (tokO r).tok.text = true)) := by
  by_cases h1 : letB (by8 r 0) = true
  · have e : tokO r = wordO r := by unfold tokO; rw [if_pos h1]
    rw [e] at he ⊢
    unfold wordO at he ⊢
    by_cases h2 : 16 < rowN wordB r
    · rw [if_pos h2] at he; cases he
    · rw [if_neg h2]
      have hp := row_pos0 (letB_word h1) (letB_ne h1)
      have hl : (r.take (rowN wordB r)).length = rowN wordB r := len_take_row _ _
      refine ⟨rfl, Or.inl ⟨rfl, rfl, by show (r.take (rowN wordB r)).length ≤ 16; omega, ?_, ?_⟩⟩
      · show letB (by8 (r.take (rowN wordB r)) 0) = true
        have : by8 (r.take (rowN wordB r)) 0 = by8 r 0 := by
          unfold by8
          rw [List.getD_eq_getElem?_getD, List.getD_eq_getElem?_getD, List.getElem?_take_of_lt hp]
        rw [this]; exact h1
      · show rowN wordB (r.take (rowN wordB r)) = (r.take (rowN wordB r)).length
        rw [row_all, hl]
  by_cases h2 : (digB (by8 r 0) || (decide (by8 r 0 = 45) && digB (by8 r 1))) = true
  · have e : tokO r = numberO r := by unfold tokO; rw [if_neg h1, if_pos h2]
    rw [e] at he ⊢
    unfold numberO at he ⊢
    by_cases h3 : by8 r 0 = 45
    · simp only [h3, decide_true, if_true] at he ⊢
      have hd1 : digB (by8 r 1) = true := by
        rw [h3] at h2
        have : digB 45 = false := rfl
        rw [this, decide_eq_true rfl, Bool.false_or, Bool.true_and] at h2
        exact h2
      have hpos : 0 < rowN digB (r.drop 1) := row_pos0 (by rw [by8_drop]; exact hd1) (by rw [by8_drop]; exact digB_ne0 hd1)
      have hne : (r.drop 1).take (rowN digB (r.drop 1)) ≠ [] := by
        intro e
        have := congrArg List.length e
        rw [len_take_row, List.length_nil] at this
        omega
      cases hz : numO true ((r.drop 1).take (rowN digB (r.drop 1))) with
      | none => rw [hz] at he; cases he
      | some v =>
        obtain ⟨a1, a2⟩ := num_spelt hne (allD_row _) hz
        refine ⟨?_, Or.inr (Or.inl ⟨rfl, rfl, a2⟩)⟩
        show intS v = r.take (1 + rowN digB (r.drop 1))
        rw [a1]
        obtain ⟨c, r2, rfl⟩ := take_first (l := r) (by intro e; subst e; simp [by8] at h3)
        have hc : (c.toNat : Int) = 45 := h3
        have ec : c = 45 := by apply UInt8.toNat.inj; show c.toNat = 45; omega
        subst ec
        rw [Nat.add_comm]
        rfl
    · simp only [h3, decide_false, Bool.false_eq_true, if_false] at he ⊢
      have hd0 : digB (by8 r 0) = true := by
        rw [decide_eq_false h3, Bool.false_and, Bool.or_false] at h2; exact h2
      have hpos : 0 < rowN digB r := row_pos0 hd0 (digB_ne0 hd0)
      have hne : r.take (rowN digB r) ≠ [] := by
        intro e
        have := congrArg List.length e
        rw [len_take_row, List.length_nil] at this
        omega
      cases hz : numO false (r.take (rowN digB r)) with
      | none => rw [hz] at he; cases he
      | some v =>
        obtain ⟨a1, a2⟩ := num_spelt hne (allD_row _) hz
        refine ⟨?_, Or.inr (Or.inl ⟨rfl, rfl, a2⟩)⟩
        show intS v = r.take (0 + rowN digB r)
        rw [a1, Nat.zero_add]
        rfl
  by_cases h3 : markB (by8 r 0) = true
  · have e : tokO r = markO r 1 := by unfold tokO; rw [if_neg h1, if_neg h2, if_pos h3]
    rw [e]
    refine ⟨rfl, Or.inr (Or.inr ⟨rfl, rfl, ?_⟩)⟩
    show markT (r.take 1) = true
    obtain ⟨c, r2, rfl⟩ := take_first (l := r) (by intro e; subst e; cases h3)
    rw [by8_zero] at h3
    have h4 : c = 123 ∨ c = 125 ∨ c = 61 ∨ c = 59 ∨ c = 46 := by
      unfold markB at h3
      simp only [Bool.or_eq_true, decide_eq_true_eq] at h3
      rcases h3 with (((h | h) | h) | h) | h
      · exact Or.inl (by apply UInt8.toNat.inj; show c.toNat = 123; omega)
      · exact Or.inr (Or.inl (by apply UInt8.toNat.inj; show c.toNat = 125; omega))
      · exact Or.inr (Or.inr (Or.inl (by apply UInt8.toNat.inj; show c.toNat = 61; omega)))
      · exact Or.inr (Or.inr (Or.inr (Or.inl (by apply UInt8.toNat.inj; show c.toNat = 59; omega))))
      · exact Or.inr (Or.inr (Or.inr (Or.inr (by apply UInt8.toNat.inj; show c.toNat = 46; omega))))
    rcases h4 with rfl | rfl | rfl | rfl | rfl <;> rfl
  by_cases h4 : (decide (by8 r 0 = 45) && decide (by8 r 1 = 62)) = true
  · have e : tokO r = markO r 2 := by unfold tokO; rw [if_neg h1, if_neg h2, if_neg h3, if_pos h4]
    rw [e]
    refine ⟨rfl, Or.inr (Or.inr ⟨rfl, rfl, ?_⟩)⟩
    show markT (r.take 2) = true
    rw [Bool.and_eq_true, decide_eq_true_iff, decide_eq_true_iff] at h4
    match r, h4 with
    | [], h4 => exact absurd h4.1 (by decide)
    | [c], h4 => exact absurd h4.2 (by simp [by8])
    | c :: d :: r, h4 =>
      have hc : (c.toNat : Int) = 45 := h4.1
      have hd : (d.toNat : Int) = 62 := h4.2
      have ec : c = 45 := by apply UInt8.toNat.inj; show c.toNat = 45; omega
      have ed : d = 62 := by apply UInt8.toNat.inj; show d.toNat = 62; omega
      subst ec
      subst ed
      rfl
  · exfalso
    have e : tokO r = ⟨noTok, 40, 0⟩ := by unfold tokO; rw [if_neg h1, if_neg h2, if_neg h3, if_neg h4]
    rw [e] at he; cases he
end Go.Proofs.YthgblljokonejaaGreatDoor
