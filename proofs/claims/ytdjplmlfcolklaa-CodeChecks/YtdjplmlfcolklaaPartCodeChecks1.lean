/- Texts of one chain, laid one behind the other. -/
import Derived.RowKit
import Derived.Lib.Zigzag
namespace Go.Proofs.Ytdjplmlfcolklaa
open Go.Lib
/-- A reader of bytes, from a place on: what is wrong and where, or what was read and the place behind it. -/
def RdC (α : Type) : Type := List UInt8 → Nat → Except (Int × Nat) (α × Nat)
def thenR {α β : Type} (r : RdC α) (f : α → RdC β) : RdC β := fun D j =>
  match r D j with
  | .error e => .error e
  | .ok p => f p.1 D p.2
def giveR {α : Type} (a : α) : RdC α := fun _ j => .ok (a, j)
theorem thenR_ok {α β : Type} {r : RdC α} {f : α → RdC β} {D : List UInt8} {j k : Nat} {a : α} (h : r D j = .ok (a, k)) : thenR r f D j = f a D k := by
  unfold thenR; rw [h]
theorem thenR_err {α β : Type} {r : RdC α} {f : α → RdC β} {D : List UInt8} {j : Nat} {e : Int × Nat} (h : r D j = .error e) : thenR r f D j = .error e := by
  unfold thenR; rw [h]
theorem thenR_inv {α β : Type} {r : RdC α} {f : α → RdC β} {D : List UInt8} {j k : Nat} {b : β} (h : thenR r f D j = .ok (b, k)) : ∃ a m, r D j = .ok (a, m) ∧ f a D m = .ok (b, k) := by
  unfold thenR at h
  cases e : r D j with
  | error x => rw [e] at h; cases h
  | ok p => rw [e] at h; exact ⟨p.1, p.2, rfl, h⟩
/-- May a byte end a number that has so many bytes ahead of it? -/
def endB (b i : Nat) : Bool := if i = 9 then decide (b = 1) else decide (0 < b) || decide (i = 0)
def numF (first : Nat) : Nat → Nat → Nat → RdC Nat
  | 0, _, _ => fun _ _ => .error (41, first)
  | f + 1, i, acc => fun D j =>
    match D[j]? with
    | none => .error (203, D.length)
    | some b => if b.toNat < 128 then (if endB b.toNat i = true then .ok (acc + b.toNat * 128 ^ i, j + 1) else .error (41, first)) else numF first f (i + 1) (acc + (b.toNat - 128) * 128 ^ i) D (j + 1)
def numR (most : Nat) : RdC Nat := fun D j => numF j most 0 0 D j
def byteR : RdC Nat := fun D j =>
  match D[j]? with
  | none => .error (203, D.length)
  | some b => .ok (b.toNat, j + 1)
def manyR (most : Nat) : RdC Nat := fun D j =>
  match numR 3 D j with
  | .error e => .error e
  | .ok p => if most < p.1 then .error (81, j) else .ok p
def cntR : RdC Int := thenR (numR 3) fun n => giveR (n : Int)
def unzig (n : Nat) : Int := if n % 2 = 0 then ((n / 2 : Nat) : Int) else -((n / 2 : Nat) : Int) - 1
def intR : RdC Int := thenR (numR 10) fun n => giveR (unzig n)
def rowR {α : Type} (one : RdC α) : Nat → RdC (List α)
  | 0 => giveR []
  | n + 1 => thenR (rowR one n) fun l => thenR one fun a => giveR (l ++ [a])
def listR {α : Type} (most : Nat) (one : RdC α) : RdC (List α) := thenR (manyR most) (rowR one)
/-- A reader undoes a writer. -/
structure Coded {α : Type} (r : RdC α) (enc : α → List UInt8) (ok : α → Prop) : Prop where
  read : ∀ D j a post, ok a → D.drop j = enc a ++ post → j ≤ D.length → r D j = .ok (a, j + (enc a).length)
  back : ∀ D j a k, j ≤ D.length → r D j = .ok (a, k) → D.drop j = enc a ++ D.drop k ∧ k = j + (enc a).length ∧ k ≤ D.length ∧ ok a
  cut : ∀ D j a rest, ok a → rest ≠ [] → enc a = D.drop j ++ rest → j ≤ D.length → r D j = .error (203, D.length)
theorem drop_split {D x y : List UInt8} {j : Nat} (h : D.drop j = x ++ y) (hj : j ≤ D.length) : D.drop (j + x.length) = y ∧ j + x.length ≤ D.length := by
  constructor
  · rw [← List.drop_drop, h, List.drop_left]
  · have := congrArg List.length h
    rw [List.length_drop, List.length_append] at this
    omega
theorem Coded.cast {α : Type} {r : RdC α} {enc enc' : α → List UInt8} {ok ok' : α → Prop} (h : Coded r enc ok) (he : ∀ a, ok a → enc' a = enc a) (ho : ∀ a, ok' a ↔ ok a) : Coded r enc' ok' :=
  ⟨fun D j a post h1 h2 h3 => by rw [he a ((ho a).1 h1)] at h2 ⊢; exact h.read D j a post ((ho a).1 h1) h2 h3,
   fun D j a k h1 h2 => by obtain ⟨q1, q2, q3, q4⟩ := h.back D j a k h1 h2; rw [he a q4]; exact ⟨q1, q2, q3, (ho a).2 q4⟩,
   fun D j a rest h1 h2 h3 h4 => by rw [he a ((ho a).1 h1)] at h3; exact h.cut D j a rest ((ho a).1 h1) h2 h3 h4⟩
theorem coded_give {α : Type} (a : α) : Coded (giveR a) (fun _ => []) (fun c => c = a) :=
  ⟨fun D j c post h1 h2 h3 => by subst h1; rfl,
   fun D j c k h1 h2 => by cases h2; exact ⟨rfl, rfl, h1, rfl⟩,
   fun D j c rest h1 h2 h3 h4 => by
    have := congrArg List.length h3
    rw [List.length_append, List.length_nil] at this
    exact absurd (List.length_eq_zero_iff.1 (by omega)) h2⟩
theorem Coded.dep {α γ : Type} {r : RdC α} {encA : α → List UInt8} {okA : α → Prop} {t : α → RdC γ} {encT : α → γ → List UInt8} {okT : α → γ → Prop} (p : γ → α) (hr : Coded r encA okA) (ht : ∀ a, okA a → Coded (t a) (encT a) (okT a)) (hp : ∀ a c, okA a → okT a c → p c = a) : Coded (thenR r t) (fun c => encA (p c) ++ encT (p c) c) (fun c => okA (p c) ∧ okT (p c) c) := by
  refine ⟨fun D j c post h1 h2 h3 => ?_, fun D j c k h1 h2 => ?_, fun D j c rest h1 h2 h3 h4 => ?_⟩
  · rw [List.append_assoc] at h2
    obtain ⟨e1, e2⟩ := drop_split h2 h3
    rw [thenR_ok (hr.read D j (p c) _ h1.1 h2 h3), (ht _ h1.1).read D _ c post h1.2 e1 e2, List.length_append, Nat.add_assoc]
  · obtain ⟨a, m, q1, q2⟩ := thenR_inv h2
    obtain ⟨r1, r2, r3, r4⟩ := hr.back D j a m h1 q1
    obtain ⟨s1, s2, s3, s4⟩ := (ht a r4).back D m c k r3 q2
    have e := hp a c r4 s4
    refine ⟨?_, ?_, s3, by rw [e]; exact r4, by rw [e]; exact s4⟩
    · simp only [e]; rw [r1, s1, List.append_assoc]
    · simp only [e]; rw [List.length_append]; omega
  · have h3 : encA (p c) ++ encT (p c) c = D.drop j ++ rest := h3
    show thenR r t D j = _
    rcases List.append_eq_append_iff.1 h3 with ⟨c1, q1, q2⟩ | ⟨c1, q1, q2⟩
    · obtain ⟨e1, e2⟩ := drop_split q1 h4
      rw [thenR_ok (hr.read D j (p c) _ h1.1 q1 h4)]
      exact (ht _ h1.1).cut D _ c rest h1.2 h2 (by rw [e1]; exact q2) e2
    · by_cases hc : c1 = []
      · subst hc
        rw [List.append_nil] at q1
        rw [List.nil_append] at q2
        have q1' : D.drop j = encA (p c) ++ [] := by rw [List.append_nil]; exact q1.symm
        obtain ⟨e1, e2⟩ := drop_split q1' h4
        rw [thenR_ok (hr.read D j (p c) _ h1.1 q1' h4)]
        exact (ht _ h1.1).cut D _ c rest h1.2 h2 (by rw [e1, List.nil_append]; exact q2.symm) e2
      · exact thenR_err (hr.cut D j (p c) c1 h1.1 hc q1 h4)
/-! ### One byte, and numbers -/
theorem get_drop {D : List UInt8} {j : Nat} {b : UInt8} {t : List UInt8} (h : D.drop j = b :: t) : D[j]? = some b ∧ D.drop (j + 1) = t ∧ j + 1 ≤ D.length := by
  have h0 : D[j]? = (D.drop j)[0]? := by rw [List.getElem?_drop, Nat.add_zero]
  refine ⟨by rw [h0, h]; rfl, by rw [← List.drop_drop, h]; rfl, ?_⟩
  have := congrArg List.length h
  rw [List.length_drop, List.length_cons] at this
  omega
theorem get_none {D : List UInt8} {j : Nat} (h : D.drop j = []) : D[j]? = none := by
  rw [List.getElem?_eq_none_iff]
  have := congrArg List.length h
  rw [List.length_drop, List.length_nil] at this
  omega
theorem drop_get {D : List UInt8} {j : Nat} {b : UInt8} (h : D[j]? = some b) : D.drop j = b :: D.drop (j + 1) ∧ j < D.length := by
  obtain ⟨hj, e⟩ := List.getElem?_eq_some_iff.1 h
  exact ⟨by rw [← e]; exact List.drop_eq_getElem_cons hj, hj⟩
theorem u8_nat {n : Nat} (h : n < 256) : (n.toUInt8).toNat = n := by
  simp [Nat.toUInt8]; omega
theorem u8_back (b : UInt8) : (b.toNat).toUInt8 = b := by simp [Nat.toUInt8]
theorem coded_byte : Coded byteR (fun n => [n.toUInt8]) (fun n => n < 256) := by
  refine ⟨fun D j a post h1 h2 h3 => ?_, fun D j a k h1 h2 => ?_, fun D j a rest h1 h2 h3 h4 => ?_⟩
  · obtain ⟨e, -, -⟩ := get_drop (b := a.toUInt8) (t := post) h2
    unfold byteR; rw [e]; simp only [u8_nat h1]; rfl
  · unfold byteR at h2
    cases e : D[j]? with
    | none => rw [e] at h2; cases h2
    | some b =>
      rw [e] at h2
      obtain ⟨e1, e2⟩ := drop_get e
      cases h2
      exact ⟨by rw [u8_back]; exact e1, rfl, e2, b.toNat_lt⟩
  · have hd : D.drop j = [] := by
      cases e : D.drop j with
      | nil => rfl
      | cons b t =>
        rw [e] at h3
        have := congrArg List.length h3
        simp only [List.length_append, List.length_cons, List.length_nil] at this
        exact absurd (List.length_eq_zero_iff.1 (by omega)) h2
    unfold byteR; rw [get_none hd]
/-- What may be read where so many bytes may follow, and so many stand ahead. -/
def LimN (f i n : Nat) : Prop := n < 128 ^ f ∧ (i + f = 10 → n * 128 ^ i < 18446744073709551616) ∧ (0 < i → 0 < n)
theorem nine_pow : (128 : Nat) ^ 9 = 9223372036854775808 := by decide
theorem LimN.end {f i n : Nat} (h : LimN (f + 1) i n) (hi : i + (f + 1) ≤ 10) (hn : n < 128) : endB n i = true := by
  unfold endB
  by_cases h9 : i = 9
  · rw [if_pos h9]
    subst h9
    have h1 := h.2.1 (by omega)
    have h2 := h.2.2 (by omega)
    rw [nine_pow] at h1
    exact decide_eq_true (by omega)
  · rw [if_neg h9]
    by_cases h0 : i = 0
    · subst h0; simp
    · have := h.2.2 (by omega)
      rw [decide_eq_true this]; rfl
theorem LimN.next {f i n : Nat} (h : LimN (f + 1) i n) (hn : 128 ≤ n) : LimN f (i + 1) (n / 128) := by
  refine ⟨?_, fun h1 => ?_, fun _ => by omega⟩
  · have := h.1
    rw [Nat.pow_succ] at this
    exact Nat.div_lt_of_lt_mul (by rw [Nat.mul_comm]; exact this)
  · have := h.2.1 (by omega)
    rw [Nat.pow_succ, Nat.mul_comm (128 ^ i) 128, ← Nat.mul_assoc]
    exact Nat.lt_of_le_of_lt (Nat.mul_le_mul_right _ (Nat.div_mul_le_self n 128)) this
theorem acc_step (acc n i : Nat) : acc + (n % 128) * 128 ^ i + n / 128 * 128 ^ (i + 1) = acc + n * 128 ^ i := by
  rw [Nat.pow_succ, Nat.mul_comm (128 ^ i) 128, ← Nat.mul_assoc, Nat.add_assoc, ← Nat.add_mul]
  congr 2
  omega
theorem numF_read (first : Nat) : ∀ (f i acc n : Nat) (D : List UInt8) (j : Nat) (post : List UInt8), LimN f i n → i + f ≤ 10 → 0 < f → D.drop j = uvarint n ++ post → numF first f i acc D j = .ok (acc + n * 128 ^ i, j + (uvarint n).length)
  | 0, _, _, _, _, _, _, _, _, h0, _ => absurd h0 (by decide)
  | f + 1, i, acc, n, D, j, post, hl, hi, _, hd => by
    by_cases hn : n < 128
    · rw [uvarint_small hn] at hd ⊢
      obtain ⟨e, -, -⟩ := get_drop (b := n.toUInt8) (t := post) hd
      unfold numF
      simp only [e, u8_nat (show n < 256 by omega)]
      rw [if_pos hn, if_pos (hl.end hi hn)]
      rfl
    · rw [uvarint_big (by omega)] at hd ⊢
      obtain ⟨e, e2, -⟩ := get_drop (b := (n % 128 + 128).toUInt8) (t := uvarint (n / 128) ++ post) hd
      have hf : 0 < f := by
        rcases Nat.eq_zero_or_pos f with rfl | h
        · have := hl.1; simp at this; omega
        · exact h
      unfold numF
      simp only [e, u8_nat (show n % 128 + 128 < 256 by omega)]
      rw [if_neg (by omega), numF_read first f (i + 1) _ (n / 128) D (j + 1) post (hl.next (by omega)) (by omega) hf e2, Nat.add_sub_cancel, acc_step, List.length_cons, Nat.add_assoc, Nat.add_comm 1]
theorem numF_back (first : Nat) : ∀ (f i acc : Nat) (D : List UInt8) (j v k : Nat), i + f ≤ 10 → numF first f i acc D j = .ok (v, k) → ∃ n, v = acc + n * 128 ^ i ∧ D.drop j = uvarint n ++ D.drop k ∧ k = j + (uvarint n).length ∧ k ≤ D.length ∧ LimN f i n
  | 0, _, _, _, _, _, _, _, h => by unfold numF at h; cases h
  | f + 1, i, acc, D, j, v, k, hi, h => by
    unfold numF at h
    cases e : D[j]? with
    | none => simp only [e] at h; cases h
    | some b =>
      obtain ⟨e1, e2⟩ := drop_get e
      simp only [e] at h
      by_cases hb : b.toNat < 128
      · rw [if_pos hb] at h
        by_cases he : endB b.toNat i = true
        · rw [if_pos he] at h
          cases h
          refine ⟨b.toNat, rfl, by rw [uvarint_small hb, u8_back]; exact e1, by rw [uvarint_small hb]; rfl, e2, ?_, fun h10 => ?_, fun h0 => ?_⟩
          · exact Nat.lt_of_lt_of_le hb (by rw [Nat.pow_succ]; exact Nat.le_mul_of_pos_left _ (Nat.pow_pos (by decide)))
          · by_cases h9 : i = 9
            · unfold endB at he
              rw [if_pos h9] at he
              have := of_decide_eq_true he
              rw [this, h9, nine_pow]; decide
            · have h3 : i ≤ 8 := by omega
              have h4 : (128 : Nat) ^ i ≤ 128 ^ 8 := Nat.pow_le_pow_right (by decide) h3
              have h5 : (128 : Nat) ^ 8 = 72057594037927936 := by decide
              have h6 : b.toNat * 128 ^ i ≤ 127 * 72057594037927936 := Nat.mul_le_mul (by omega) (by omega)
              omega
          · unfold endB at he
            by_cases h9 : i = 9
            · rw [if_pos h9] at he; have := of_decide_eq_true he; omega
            · rw [if_neg h9, decide_eq_false (show ¬ i = 0 by omega), Bool.or_false] at he
              exact of_decide_eq_true he
        · rw [if_neg he] at h; cases h
      · rw [if_neg hb] at h
        obtain ⟨n, q1, q2, q3, q4, q5⟩ := numF_back first f (i + 1) _ D (j + 1) v k (by omega) h
        have hbl := b.toNat_lt
        have hn : 0 < n := q5.2.2 (by omega)
        have hd : (b.toNat - 128 + 128 * n) / 128 = n := by omega
        have hm : (b.toNat - 128 + 128 * n) % 128 = b.toNat - 128 := by omega
        have hu : uvarint (b.toNat - 128 + 128 * n) = b :: uvarint n := by
          rw [uvarint_big (by omega), hd, hm, show b.toNat - 128 + 128 = b.toNat by omega, u8_back]
        refine ⟨b.toNat - 128 + 128 * n, ?_, by rw [hu, e1, q2]; rfl, by rw [hu, List.length_cons]; omega, q4, ?_, fun h10 => ?_, fun _ => by omega⟩
        · rw [q1, ← acc_step acc (b.toNat - 128 + 128 * n) i, hd, hm]
        · have := q5.1
          rw [Nat.pow_succ]
          omega
        · have h1 := q5.2.1 (by omega)
          have h3 : i ≤ 8 := by
            rcases Nat.eq_zero_or_pos f with rfl | hf
            · have := q5.1; simp at this; omega
            · omega
          have h4 : (128 : Nat) ^ i ≤ 128 ^ 8 := Nat.pow_le_pow_right (by decide) h3
          have h5 : (128 : Nat) ^ 8 = 72057594037927936 := by decide
          rw [Nat.add_mul]
          rw [Nat.pow_succ, Nat.mul_comm (128 ^ i) 128, ← Nat.mul_assoc, Nat.mul_comm n 128] at h1
          have h6 : (128 : Nat) * n * 128 ^ i = 128 * (n * 128 ^ i) := by rw [Nat.mul_assoc]
          have h7 : (b.toNat - 128) * 128 ^ i < 128 * 128 ^ i := Nat.mul_lt_mul_of_pos_right (by omega) (Nat.pow_pos (by decide))
          have h8 : (18446744073709551616 : Nat) = 128 * 144115188075855872 := by decide
          obtain ⟨g, hg⟩ : ∃ g, 9 - i = g + 1 := ⟨8 - i, by omega⟩
          have h9 : 144115188075855872 = 128 ^ i * 2 ^ (57 - 7 * i) := by
            have : ∀ i, i ≤ 8 → 144115188075855872 = 128 ^ i * 2 ^ (57 - 7 * i) := by decide
            exact this i h3
          rw [h6] at h1 ⊢
          have h10 : n * 128 ^ i < 128 ^ i * 2 ^ (57 - 7 * i) := by rw [← h9]; omega
          have h11 : n < 2 ^ (57 - 7 * i) := by
            rw [Nat.mul_comm] at h10
            exact Nat.lt_of_mul_lt_mul_left h10
          have h12 : (n + 1) * 128 ^ i ≤ 144115188075855872 := by
            rw [h9, Nat.mul_comm]
            exact Nat.mul_le_mul_left _ h11
          rw [Nat.add_mul, Nat.one_mul] at h12
          omega
theorem numF_cut (first : Nat) : ∀ (f i acc n : Nat) (D : List UInt8) (j : Nat) (rest : List UInt8), LimN f i n → i + f ≤ 10 → 0 < f → rest ≠ [] → uvarint n = D.drop j ++ rest → numF first f i acc D j = .error (203, D.length)
  | 0, _, _, _, _, _, _, _, _, h0, _, _ => absurd h0 (by decide)
  | f + 1, i, acc, n, D, j, rest, hl, hi, _, hr, hd => by
    cases e : D.drop j with
    | nil => unfold numF; simp only [get_none e]
    | cons b t =>
      rw [e] at hd
      obtain ⟨e1, e2, -⟩ := get_drop e
      by_cases hn : n < 128
      · rw [uvarint_small hn] at hd
        have := congrArg List.length hd
        simp only [List.length_append, List.length_cons, List.length_nil] at this
        exact absurd (List.length_eq_zero_iff.1 (by omega)) hr
      · rw [uvarint_big (by omega), List.cons_append] at hd
        obtain ⟨h1, h2⟩ := List.cons.inj hd
        have hf : 0 < f := by
          rcases Nat.eq_zero_or_pos f with rfl | h
          · have := hl.1; simp at this; omega
          · exact h
        unfold numF
        simp only [e1, ← h1, u8_nat (show n % 128 + 128 < 256 by omega)]
        rw [if_neg (by omega)]
        exact numF_cut first f (i + 1) _ (n / 128) D (j + 1) rest (hl.next (by omega)) (by omega) hf hr (by rw [e2]; exact h2)
theorem coded_num {m : Nat} (h0 : 0 < m) (hm : m ≤ 10) : Coded (numR m) uvarint (fun n => LimN m 0 n) := by
  refine ⟨fun D j a post h1 h2 h3 => ?_, fun D j a k h1 h2 => ?_, fun D j a rest h1 h2 h3 h4 => ?_⟩
  · have := numF_read j m 0 0 a D j post h1 (by omega) h0 h2
    rw [Nat.pow_zero, Nat.mul_one, Nat.zero_add] at this
    exact this
  · obtain ⟨n, q1, q2, q3, q4, q5⟩ := numF_back j m 0 0 D j a k (by omega) h2
    rw [Nat.pow_zero, Nat.mul_one, Nat.zero_add] at q1
    subst q1
    exact ⟨q2, q3, q4, q5⟩
  · exact numF_cut j m 0 0 a D j rest h1 (by omega) h0 h2 h3
theorem lim_three {n : Nat} : LimN 3 0 n ↔ n < 2097152 := by
  unfold LimN
  constructor
  · exact fun h => h.1
  · exact fun h => ⟨h, fun e => by omega, fun e => by omega⟩
theorem lim_ten {n : Nat} : LimN 10 0 n ↔ n < 18446744073709551616 := by
  unfold LimN
  constructor
  · intro h; have := h.2.1 rfl; simpa using this
  · intro h
    refine ⟨Nat.lt_of_lt_of_le h (by decide), fun _ => by simpa using h, fun e => by omega⟩
def CntOk (z : Int) : Prop := 0 ≤ z ∧ z < 2097152
def IntOk (z : Int) : Prop := -9223372036854775808 ≤ z ∧ z ≤ 9223372036854775807
def encN (z : Int) : List UInt8 := uvarint z.toNat
def encZ (z : Int) : List UInt8 := uvarint (zigzag z)
theorem coded_cnt : Coded cntR encN CntOk := by
  refine (Coded.dep (fun z : Int => z.toNat) (coded_num (m := 3) (by decide) (by decide)) (fun n _ => coded_give ((n : Nat) : Int)) (fun n z _ h => by rw [h]; rfl)).cast (fun z h => ?_) (fun z => ?_)
  · exact (List.append_nil _).symm
  · rw [lim_three]
    unfold CntOk
    constructor <;> intro h <;> omega
theorem unzig_zig (z : Int) : unzig (zigzag z) = z := by
  unfold unzig zigzag
  by_cases h : 0 ≤ z
  · rw [if_pos h, if_pos (by omega)]; omega
  · rw [if_neg h, if_neg (by omega)]; omega
theorem zig_unzig (n : Nat) : zigzag (unzig n) = n := by
  unfold unzig zigzag
  by_cases h : n % 2 = 0
  · rw [if_pos h, if_pos (by omega)]; omega
  · rw [if_neg h, if_neg (by omega)]; omega
theorem zig_lt {z : Int} : zigzag z < 18446744073709551616 ↔ IntOk z := by
  unfold zigzag IntOk
  by_cases h : 0 ≤ z
  · rw [if_pos h]; omega
  · rw [if_neg h]; omega
theorem coded_int : Coded intR encZ IntOk := by
  refine (Coded.dep zigzag (coded_num (m := 10) (by decide) (by decide)) (fun n _ => coded_give (unzig n)) (fun n z _ h => by rw [h]; exact zig_unzig n)).cast (fun z h => ?_) (fun z => ?_)
  · exact (List.append_nil _).symm
  · rw [lim_ten, zig_lt]
    exact ⟨fun h => ⟨h, (unzig_zig z).symm⟩, fun h => h.1⟩
theorem coded_many {most : Nat} (hm : most < 2097152) : Coded (manyR most) uvarint (fun n => n ≤ most) := by
  have hc := coded_num (m := 3) (by decide) (by decide)
  refine ⟨fun D j a post h1 h2 h3 => ?_, fun D j a k h1 h2 => ?_, fun D j a rest h1 h2 h3 h4 => ?_⟩
  · unfold manyR
    rw [hc.read D j a post (lim_three.2 (by omega)) h2 h3]
    simp only
    rw [if_neg (by omega)]
  · unfold manyR at h2
    cases e : numR 3 D j with
    | error x => rw [e] at h2; cases h2
    | ok p =>
      rw [e] at h2
      simp only at h2
      by_cases hp : most < p.1
      · rw [if_pos hp] at h2; cases h2
      · rw [if_neg hp] at h2
        cases h2
        obtain ⟨q1, q2, q3, -⟩ := hc.back D j a k h1 e
        exact ⟨q1, q2, q3, by simpa using hp⟩
  · unfold manyR
    rw [hc.cut D j a rest (lim_three.2 (by omega)) h2 h3 h4]
theorem snoc_of {α : Type} {l : List α} (h : l ≠ []) (d : α) : l.dropLast ++ [l.getLastD d] = l := by
  rw [List.getLastD_eq_getLast?, List.getLast?_eq_some_getLast h]
  exact List.dropLast_concat_getLast h
theorem coded_row {α : Type} {one : RdC α} {enc : α → List UInt8} {ok : α → Prop} (d : α) (h : Coded one enc ok) : ∀ n, Coded (rowR one n) (fun l => l.flatMap enc) (fun l => l.length = n ∧ ∀ a ∈ l, ok a)
  | 0 => (coded_give ([] : List α)).cast (fun l e => by rw [e]; rfl) (fun l => by
      constructor
      · exact fun e => List.length_eq_zero_iff.1 e.1
      · rintro rfl; exact ⟨rfl, fun a ha => by cases ha⟩)
  | n + 1 => by
    refine (Coded.dep List.dropLast (coded_row d h n) (fun l _ => Coded.dep (fun l => l.getLastD d) h (fun a _ => coded_give (l ++ [a])) (fun a c _ e => by rw [e, List.getLastD_eq_getLast?, List.getLast?_concat]; rfl)) (fun l c _ e => by rw [e.2]; exact List.dropLast_concat)).cast (fun l e => ?_) (fun l => ?_)
    · show l.flatMap enc = _
      have q := e.2.2
      conv => lhs; rw [q]
      rw [List.flatMap_append]
      simp
    · constructor
      · rintro ⟨h1, h2⟩
        have hne : l ≠ [] := fun e => by rw [e] at h1; cases h1
        have e := snoc_of hne d
        refine ⟨⟨by rw [List.length_dropLast, h1]; rfl, fun a ha => h2 a (List.dropLast_subset l ha)⟩, h2 _ ?_, e.symm⟩
        rw [← e]; simp
      · rintro ⟨⟨h1, h2⟩, h3, h4⟩
        constructor
        · rw [h4, List.length_append, h1]; rfl
        · intro a ha
          rw [h4] at ha
          rcases List.mem_append.1 ha with ha | ha
          · exact h2 a ha
          · rw [List.mem_singleton.1 ha]; exact h3
theorem coded_list {α : Type} {one : RdC α} {enc : α → List UInt8} {ok : α → Prop} (d : α) (h : Coded one enc ok) {most : Nat} (hm : most < 2097152) : Coded (listR most one) (fun l => uvarint l.length ++ l.flatMap enc) (fun l => l.length ≤ most ∧ ∀ a ∈ l, ok a) :=
  (Coded.dep List.length (coded_many hm) (fun n _ => coded_row d h n) (fun _ _ _ e => e.1)).cast (fun _ _ => rfl) (fun _ => ⟨fun e => ⟨e.1, rfl, e.2⟩, fun e => ⟨e.1, e.2.2⟩⟩)
structure PrtC where
  tag : Nat
  ps : List Int
structure LinC where
  base : Int
  size : Int
  start : List Int
structure OpC where
  kind : Nat
  a : Int
  b : Int
structure PrgC where
  mem : Int
  cnt : Int
  ins : Int
  outs : Int
  parts : List PrtC
  lines : List LinC
  ops : List OpC
def prt0 : PrtC := ⟨0, []⟩
def lin0 : LinC := ⟨0, 0, []⟩
def op0 : OpC := ⟨0, 0, 0⟩
/-! ### Bytes -/
def encL (zs : List Int) : List UInt8 := uvarint zs.length ++ zs.flatMap encZ
def encP (q : PrtC) : List UInt8 := q.tag.toUInt8 :: encL q.ps
def encB (q : LinC) : List UInt8 := encN q.base ++ (encN q.size ++ encL q.start)
def encO (q : OpC) : List UInt8 := q.kind.toUInt8 :: (encN q.a ++ encN q.b)
def encX (p : PrgC) : List UInt8 := encN p.mem ++ (encN p.cnt ++ (encN p.ins ++ (encN p.outs ++ ((uvarint p.parts.length ++ p.parts.flatMap encP) ++ ((uvarint p.lines.length ++ p.lines.flatMap encB) ++ (uvarint p.ops.length ++ p.ops.flatMap encO))))))
def magC : List UInt8 := [80, 78, 76, 49]
def encC (p : PrgC) : List UInt8 := magC ++ encX p
def prtR : RdC PrtC := thenR byteR fun t => thenR (listR 16 intR) fun l => giveR ⟨t, l⟩
def linR : RdC LinC := thenR cntR fun b => thenR cntR fun s => thenR (listR 1024 intR) fun l => giveR ⟨b, s, l⟩
def opR : RdC OpC := thenR byteR fun k => thenR cntR fun a => thenR cntR fun b => giveR ⟨k, a, b⟩
def prgR : RdC PrgC := thenR cntR fun m => thenR cntR fun c => thenR cntR fun i => thenR cntR fun o => thenR (listR 32 prtR) fun ps => thenR (listR 96 linR) fun ls => thenR (listR 131072 opR) fun os => giveR ⟨m, c, i, o, ps, ls, os⟩
def PrtOk (q : PrtC) : Prop := q.tag < 256 ∧ q.ps.length ≤ 16 ∧ ∀ z ∈ q.ps, IntOk z
def LinOk (q : LinC) : Prop := CntOk q.base ∧ CntOk q.size ∧ q.start.length ≤ 1024 ∧ ∀ z ∈ q.start, IntOk z
def OpOk (q : OpC) : Prop := q.kind < 256 ∧ CntOk q.a ∧ CntOk q.b
structure PrgOk (p : PrgC) : Prop where
  mem : CntOk p.mem
  cnt : CntOk p.cnt
  ins : CntOk p.ins
  outs : CntOk p.outs
  partsL : p.parts.length ≤ 32
  parts : ∀ q ∈ p.parts, PrtOk q
  linesL : p.lines.length ≤ 96
  lines : ∀ q ∈ p.lines, LinOk q
  opsL : p.ops.length ≤ 131072
  ops : ∀ q ∈ p.ops, OpOk q
theorem coded_prt : Coded prtR encP PrtOk := by
  refine (Coded.dep PrtC.tag coded_byte (fun t _ => Coded.dep PrtC.ps (coded_list 0 coded_int (show 16 < 2097152 by decide)) (fun l _ => coded_give (⟨t, l⟩ : PrtC)) (fun l c _ e => by rw [e])) (fun t c _ e => by rw [e.2])).cast (fun q _ => ?_) (fun q => ?_)
  · unfold encP encL; simp
  · unfold PrtOk
    constructor
    · rintro ⟨h1, h2, h3⟩; exact ⟨h1, ⟨h2, h3⟩, rfl⟩
    · rintro ⟨h1, ⟨h2, h3⟩, -⟩; exact ⟨h1, h2, h3⟩
theorem coded_lin : Coded linR encB LinOk := by
  refine (Coded.dep LinC.base coded_cnt (fun b _ => Coded.dep LinC.size coded_cnt (fun s _ => Coded.dep LinC.start (coded_list 0 coded_int (show 1024 < 2097152 by decide)) (fun l _ => coded_give (⟨b, s, l⟩ : LinC)) (fun l c _ e => by rw [e])) (fun s c _ e => by rw [e.2])) (fun b c _ e => by rw [e.2.2])).cast (fun q _ => ?_) (fun q => ?_)
  · unfold encB encL; simp
  · unfold LinOk
    constructor
    · rintro ⟨h1, h2, h3, h4⟩; exact ⟨h1, h2, ⟨h3, h4⟩, rfl⟩
    · rintro ⟨h1, h2, ⟨h3, h4⟩, -⟩; exact ⟨h1, h2, h3, h4⟩
theorem coded_op : Coded opR encO OpOk := by
  refine (Coded.dep OpC.kind coded_byte (fun k _ => Coded.dep OpC.a coded_cnt (fun a _ => Coded.dep OpC.b coded_cnt (fun b _ => coded_give (⟨k, a, b⟩ : OpC)) (fun b c _ e => by rw [e])) (fun a c _ e => by rw [e.2])) (fun k c _ e => by rw [e.2.2])).cast (fun q _ => ?_) (fun q => ?_)
  · unfold encO; simp
  · unfold OpOk
    constructor
    · rintro ⟨h1, h2, h3⟩; exact ⟨h1, h2, h3, rfl⟩
    · rintro ⟨h1, h2, h3, -⟩; exact ⟨h1, h2, h3⟩
theorem coded_prg : Coded prgR encX PrgOk := by
  refine (Coded.dep PrgC.mem coded_cnt (fun m _ => Coded.dep PrgC.cnt coded_cnt (fun c _ => Coded.dep PrgC.ins coded_cnt (fun i _ => Coded.dep PrgC.outs coded_cnt (fun o _ => Coded.dep PrgC.parts (coded_list prt0 coded_prt (show 32 < 2097152 by decide)) (fun ps _ => Coded.dep PrgC.lines (coded_list lin0 coded_lin (show 96 < 2097152 by decide)) (fun ls _ => Coded.dep PrgC.ops (coded_list op0 coded_op (show 131072 < 2097152 by decide)) (fun os _ => coded_give (⟨m, c, i, o, ps, ls, os⟩ : PrgC))
    (fun x q _ e => by rw [e])) (fun x q _ e => by rw [e.2])) (fun x q _ e => by rw [e.2.2])) (fun x q _ e => by rw [e.2.2.2])) (fun x q _ e => by rw [e.2.2.2.2])) (fun x q _ e => by rw [e.2.2.2.2.2])) (fun x q _ e => by rw [e.2.2.2.2.2.2])).cast (fun q _ => ?_) (fun q => ?_)
  · unfold encX; simp
  · constructor
    · intro h; exact ⟨h.mem, h.cnt, h.ins, h.outs, ⟨h.partsL, h.parts⟩, ⟨h.linesL, h.lines⟩, ⟨h.opsL, h.ops⟩, rfl⟩
    · rintro ⟨h1, h2, h3, h4, ⟨h5, h6⟩, ⟨h7, h8⟩, ⟨h9, h10⟩, -⟩; exact ⟨h1, h2, h3, h4, h5, h6, h7, h8, h9, h10⟩
/-! ### Operations gone along -/
def wiC (n lo hi : Int) : Bool := decide (lo ≤ n) && decide (n ≤ hi)
def naC (n many : Int) : Bool := decide (0 ≤ n) && decide (n < many)
/-- Does the table let an operation be? -/
def letsC (p : PrgC) (q : OpC) : Bool :=
  match q.kind with
  | 0 => decide (q.a = 0) && decide (q.b = 0)
  | 1 => naC q.a p.cnt && wiC q.b 1 2048
  | 2 => naC q.a p.cnt && naC q.b p.ops.length
  | 3 => naC q.a p.lines.length && wiC q.b 1 64
  | 4 => naC q.a p.ins && wiC q.b 1 64
  | 5 => naC q.a p.parts.length && decide (q.b = 0)
  | 6 => naC q.a p.lines.length && wiC q.b 1 64
  | 7 => naC q.a p.outs && wiC q.b 1 64
  | _ => false
structure HdC where
  place : Int
  counter : Int
  times : Int
  ahead : Int
structure TrkC where
  opn : List HdC
  steps : Int
def addC (s k : Int) : Int := min 131073 (s + k)
def hasC (o : List HdC) (c : Int) : Bool := o.any fun h => decide (h.counter = c)
/-- One operation: what is wrong with it, and the heads and steps behind it. -/
def passC (q : OpC) (at_ : Int) (t : TrkC) : Int × TrkC :=
  if q.kind = 1 then (if hasC t.opn q.a = true then (201, t) else (0, ⟨t.opn ++ [⟨at_, q.a, q.b, t.steps⟩], 0⟩))
  else if q.kind = 2 then
    (match t.opn.getLast? with
    | none => (201, t)
    | some h => if q.a = h.counter ∧ q.b = h.place + 1 then (0, ⟨t.opn.dropLast, addC h.ahead (1 + h.times * (t.steps + 1))⟩) else (201, t))
  else if q.kind = 0 ∧ t.opn ≠ [] then (201, t)
  else (0, ⟨t.opn, addC t.steps 1⟩)
/-- May an operation stand at its place? -/
def mayC (p : PrgC) (q : OpC) (k : Nat) : Bool := letsC p q && (!decide (q.kind = 0) || decide (k + 1 = p.ops.length))
def nthO (l : List OpC) (k : Nat) : OpC := l.getD k op0
/-- The first so many operations. -/
def runC (p : PrgC) : Nat → Int × TrkC
  | 0 => (0, ⟨[], 0⟩)
  | k + 1 =>
    if (runC p k).1 = 0 then
      (if mayC p (nthO p.ops k) k = true then passC (nthO p.ops k) k (runC p k).2 else (200, (runC p k).2))
    else runC p k
def lastC (p : PrgC) : Bool := decide (0 < p.ops.length) && decide ((nthO p.ops (p.ops.length - 1)).kind = 0)
def alongC (p : PrgC) : Int × Int :=
  if (runC p p.ops.length).1 = 0 then
    (if lastC p = true then (if (runC p p.ops.length).2.steps = 131073 then (0, 5) else ((runC p p.ops.length).2.steps, 0)) else (0, 200))
  else (0, (runC p p.ops.length).1)
theorem run_stop {p : PrgC} {k : Nat} (h : (runC p k).1 ≠ 0) : ∀ m, runC p (k + m) = runC p k
  | 0 => rfl
  | m + 1 => by
    have ih := run_stop h m
    show runC p (k + m + 1) = _
    rw [runC, ih, if_neg h]
theorem run_prefix {p : PrgC} {n k : Nat} (h : (runC p n).1 = 0) (hk : k ≤ n) : (runC p k).1 = 0 := by
  by_cases h0 : (runC p k).1 = 0
  · exact h0
  · have := run_stop h0 (n - k)
    rw [show k + (n - k) = n by omega] at this
    rw [this] at h
    exact h
theorem run_step {p : PrgC} {n k : Nat} (h : (runC p n).1 = 0) (hk : k < n) : mayC p (nthO p.ops k) k = true ∧ (passC (nthO p.ops k) k (runC p k).2).1 = 0 ∧ runC p (k + 1) = passC (nthO p.ops k) k (runC p k).2 := by
  have h1 := run_prefix h hk
  have h0 := run_prefix h (Nat.le_of_lt hk)
  rw [runC, if_pos h0] at h1
  rw [runC, if_pos h0]
  by_cases hm : mayC p (nthO p.ops k) k = true
  · rw [if_pos hm] at h1
    exact ⟨hm, h1, by rw [if_pos hm]⟩
  · rw [if_neg hm] at h1; cases h1
theorem wiC_iff {n lo hi : Int} : wiC n lo hi = true ↔ lo ≤ n ∧ n ≤ hi := by
  unfold wiC; rw [Bool.and_eq_true, decide_eq_true_iff, decide_eq_true_iff]
theorem naC_iff {n m : Int} : naC n m = true ↔ 0 ≤ n ∧ n < m := by
  unfold naC; rw [Bool.and_eq_true, decide_eq_true_iff, decide_eq_true_iff]
def limC (p : PrgC) : Int :=
  if wiC p.mem 0 1024 && (wiC p.cnt 0 17 && (wiC p.ins 0 16 && wiC p.outs 0 16)) then (if 32 < p.parts.length ∨ 96 < p.lines.length ∨ 131072 < p.ops.length then 81 else 0) else 1
def partsC (K : Nat → List Int → Int) : List PrtC → Int
  | [] => 0
  | q :: l => if K q.tag q.ps = 0 then partsC K l else K q.tag q.ps
def insC (q : LinC) (mem : Int) : Bool := decide (0 ≤ q.base) && (decide (0 ≤ q.size) && decide (q.size ≤ mem - q.base))
def linesC (mem : Int) : List LinC → Int
  | [] => 0
  | q :: l => if insC q mem = true then (if q.size < q.start.length then 88 else linesC mem l) else 190
def stepC (K : Nat → List Int → Int) (p : PrgC) : Int × Int :=
  if limC p = 0 then (if partsC K p.parts = 0 then (if linesC p.mem p.lines = 0 then alongC p else (0, linesC p.mem p.lines)) else (0, partsC K p.parts)) else (0, limC p)
theorem step_zero {K : Nat → List Int → Int} {p : PrgC} (h : (stepC K p).2 = 0) : limC p = 0 ∧ partsC K p.parts = 0 ∧ linesC p.mem p.lines = 0 ∧ stepC K p = alongC p ∧ (alongC p).2 = 0 := by
  unfold stepC at h ⊢
  by_cases h1 : limC p = 0
  · rw [if_pos h1] at h ⊢
    by_cases h2 : partsC K p.parts = 0
    · rw [if_pos h2] at h ⊢
      by_cases h3 : linesC p.mem p.lines = 0
      · rw [if_pos h3] at h ⊢
        exact ⟨h1, h2, h3, rfl, h⟩
      · rw [if_neg h3] at h; exact absurd h h3
    · rw [if_neg h2] at h; exact absurd h h2
  · rw [if_neg h1] at h; exact absurd h h1
theorem lim_zero {p : PrgC} (h : limC p = 0) : (0 ≤ p.mem ∧ p.mem ≤ 1024) ∧ (0 ≤ p.cnt ∧ p.cnt ≤ 17) ∧ (0 ≤ p.ins ∧ p.ins ≤ 16) ∧ (0 ≤ p.outs ∧ p.outs ≤ 16) ∧ p.parts.length ≤ 32 ∧ p.lines.length ≤ 96 ∧ p.ops.length ≤ 131072 := by
  unfold limC at h
  by_cases h1 : (wiC p.mem 0 1024 && (wiC p.cnt 0 17 && (wiC p.ins 0 16 && wiC p.outs 0 16))) = true
  · rw [if_pos h1] at h
    rw [Bool.and_eq_true, Bool.and_eq_true, Bool.and_eq_true, wiC_iff, wiC_iff, wiC_iff, wiC_iff] at h1
    by_cases h2 : 32 < p.parts.length ∨ 96 < p.lines.length ∨ 131072 < p.ops.length
    · rw [if_pos h2] at h; cases h
    · exact ⟨h1.1, h1.2.1, h1.2.2.1, h1.2.2.2, by omega, by omega, by omega⟩
  · rw [if_neg h1] at h; cases h
theorem parts_zero {K : Nat → List Int → Int} : ∀ {l : List PrtC}, partsC K l = 0 → ∀ q ∈ l, K q.tag q.ps = 0
  | [], _, q, hq => by cases hq
  | x :: l, h, q, hq => by
    unfold partsC at h
    by_cases h1 : K x.tag x.ps = 0
    · rw [if_pos h1] at h
      rcases List.mem_cons.1 hq with rfl | hq
      · exact h1
      · exact parts_zero h q hq
    · rw [if_neg h1] at h; exact absurd h h1
theorem ins_iff {q : LinC} {mem : Int} : insC q mem = true ↔ 0 ≤ q.base ∧ 0 ≤ q.size ∧ q.size ≤ mem - q.base := by
  unfold insC; rw [Bool.and_eq_true, Bool.and_eq_true, decide_eq_true_iff, decide_eq_true_iff, decide_eq_true_iff]
theorem lines_zero {mem : Int} : ∀ {l : List LinC}, linesC mem l = 0 → ∀ q ∈ l, (0 ≤ q.base ∧ 0 ≤ q.size ∧ q.size ≤ mem - q.base) ∧ (q.start.length : Int) ≤ q.size
  | [], _, q, hq => by cases hq
  | x :: l, h, q, hq => by
    unfold linesC at h
    by_cases h1 : insC x mem = true
    · rw [if_pos h1] at h
      by_cases h2 : x.size < x.start.length
      · rw [if_pos h2] at h; cases h
      · rw [if_neg h2] at h
        rcases List.mem_cons.1 hq with rfl | hq
        · exact ⟨ins_iff.1 h1, by omega⟩
        · exact lines_zero h q hq
    · rw [if_neg h1] at h; cases h
theorem along_zero {p : PrgC} (h : (alongC p).2 = 0) : (runC p p.ops.length).1 = 0 ∧ lastC p = true ∧ (runC p p.ops.length).2.steps ≠ 131073 ∧ alongC p = ((runC p p.ops.length).2.steps, 0) := by
  unfold alongC at h ⊢
  by_cases h1 : (runC p p.ops.length).1 = 0
  · rw [if_pos h1] at h ⊢
    by_cases h2 : lastC p = true
    · rw [if_pos h2] at h ⊢
      by_cases h3 : (runC p p.ops.length).2.steps = 131073
      · rw [if_pos h3] at h; cases h
      · exact ⟨h1, h2, h3, if_neg h3⟩
    · rw [if_neg h2] at h; cases h
  · rw [if_neg h1] at h; exact absurd h h1
theorem last_iff {p : PrgC} (h : lastC p = true) : 0 < p.ops.length ∧ (nthO p.ops (p.ops.length - 1)).kind = 0 := by
  unfold lastC at h; rw [Bool.and_eq_true, decide_eq_true_iff, decide_eq_true_iff] at h; exact h
theorem nthO_mem {l : List OpC} {q : OpC} (h : q ∈ l) : ∃ k, k < l.length ∧ nthO l k = q := by
  obtain ⟨k, hk, e⟩ := List.getElem_of_mem h
  exact ⟨k, hk, by unfold nthO; rw [List.getD_eq_getElem?_getD, List.getElem?_eq_getElem hk]; exact e⟩
theorem lets_small {p : PrgC} {q : OpC} (h : letsC p q = true) (hm : limC p = 0) : OpOk q := by
  obtain ⟨-, h2, h3, h4, h5, h6, h7⟩ := lim_zero hm
  obtain ⟨k, a, b⟩ := q
  unfold OpOk CntOk
  unfold letsC at h
  match k with
  | 0 => simp only [Bool.and_eq_true, decide_eq_true_iff] at h ⊢; omega
  | 1 => simp only [Bool.and_eq_true, naC_iff, wiC_iff] at h ⊢; omega
  | 2 => simp only [Bool.and_eq_true, naC_iff] at h ⊢; omega
  | 3 => simp only [Bool.and_eq_true, naC_iff, wiC_iff] at h ⊢; omega
  | 4 => simp only [Bool.and_eq_true, naC_iff, wiC_iff] at h ⊢; omega
  | 5 => simp only [Bool.and_eq_true, naC_iff, decide_eq_true_iff] at h ⊢; omega
  | 6 => simp only [Bool.and_eq_true, naC_iff, wiC_iff] at h ⊢; omega
  | 7 => simp only [Bool.and_eq_true, naC_iff, wiC_iff] at h ⊢; omega
  | _ + 8 => cases h
/-- What is there of itself: bytes are bytes, and numbers fit into their 64 bits. -/
structure FitC (p : PrgC) : Prop where
  parts : ∀ q ∈ p.parts, q.tag < 256 ∧ ∀ z ∈ q.ps, IntOk z
  lines : ∀ q ∈ p.lines, ∀ z ∈ q.start, IntOk z
theorem may_lets {p : PrgC} {q : OpC} {k : Nat} (h : mayC p q k = true) : letsC p q = true ∧ (q.kind = 0 → k + 1 = p.ops.length) := by
  unfold mayC at h
  rw [Bool.and_eq_true, Bool.or_eq_true, decide_eq_true_iff] at h
  refine ⟨h.1, fun e => ?_⟩
  rcases h.2 with h2 | h2
  · rw [decide_eq_true e] at h2; cases h2
  · exact h2
theorem prgOk_of {K : Nat → List Int → Int} (hK : ∀ t zs, K t zs = 0 → zs.length ≤ 16) {p : PrgC} (h : (stepC K p).2 = 0) (hf : FitC p) : PrgOk p := by
  obtain ⟨h1, h2, h3, -, h5⟩ := step_zero h
  obtain ⟨m1, m2, m3, m4, m5, m6, m7⟩ := lim_zero h1
  have hr := (along_zero h5).1
  refine ⟨⟨m1.1, by omega⟩, ⟨m2.1, by omega⟩, ⟨m3.1, by omega⟩, ⟨m4.1, by omega⟩, m5, fun q hq => ⟨(hf.parts q hq).1, hK _ _ (parts_zero h2 q hq), (hf.parts q hq).2⟩, m6, fun q hq => ?_, m7, fun q hq => ?_⟩
  · obtain ⟨q1, q2⟩ := lines_zero h3 q hq
    exact ⟨⟨q1.1, by omega⟩, ⟨q1.2.1, by omega⟩, by omega, hf.lines q hq⟩
  · obtain ⟨k, hk, rfl⟩ := nthO_mem hq
    exact lets_small (may_lets (run_step hr hk).1).1 h1
/-! ### There and back -/
def decC (K : Nat → List Int → Int) (D : List UInt8) : Except (Int × Nat) PrgC :=
  if D.take 4 = magC then
    (match prgR D 4 with
    | .error e => .error e
    | .ok q => if q.2 < D.length then .error (204, q.2) else if (stepC K q.1).2 = 0 then .ok q.1 else .error ((stepC K q.1).2, D.length))
  else .error (202, 0)
theorem enc_four (p : PrgC) (t : List UInt8) : (encC p ++ t).take 4 = magC ∧ (encC p ++ t).drop 4 = encX p ++ t ∧ 4 ≤ (encC p ++ t).length := by
  unfold encC
  rw [List.append_assoc]
  refine ⟨List.take_left (l₁ := magC), List.drop_left (l₁ := magC), ?_⟩
  rw [List.length_append]
  show 4 ≤ 4 + _
  omega
theorem dec_more {K : Nat → List Int → Int} {p : PrgC} (hp : PrgOk p) (t : List UInt8) : decC K (encC p ++ t) = if t = [] then (if (stepC K p).2 = 0 then .ok p else .error ((stepC K p).2, (encC p).length)) else .error (204, (encC p).length) := by
  obtain ⟨h1, h2, h3⟩ := enc_four p t
  unfold decC
  rw [if_pos h1, coded_prg.read _ 4 p t hp h2 h3]
  simp only
  have hl : 4 + (encX p).length = (encC p).length := by unfold encC; rw [List.length_append]; rfl
  rw [hl, List.length_append]
  by_cases ht : t = []
  · subst ht
    rw [if_pos rfl, if_neg (by simp)]
    simp
  · have : 0 < t.length := List.length_pos_iff.2 ht
    rw [if_neg ht, if_pos (by omega)]
theorem dec_enc {K : Nat → List Int → Int} {p : PrgC} (hp : PrgOk p) (h : (stepC K p).2 = 0) : decC K (encC p) = .ok p := by
  have := dec_more (K := K) hp []
  rw [List.append_nil, if_pos rfl, if_pos h] at this
  exact this
/-! ### Where a reader says that it is wrong -/
structure SaneR {α : Type} (r : RdC α) : Prop where
  err : ∀ D j c a, j ≤ D.length → r D j = .error (c, a) → (c = 41 ∨ c = 81 ∨ c = 203) ∧ a ≤ D.length
  ok : ∀ D j x k, j ≤ D.length → r D j = .ok (x, k) → j ≤ k ∧ k ≤ D.length
theorem SaneR.then {α β : Type} {r : RdC α} {f : α → RdC β} (h : SaneR r) (hf : ∀ a, SaneR (f a)) : SaneR (thenR r f) := by
  refine ⟨fun D j c a h1 h2 => ?_, fun D j x k h1 h2 => ?_⟩
  · cases e : r D j with
    | error y => rw [thenR_err e] at h2; cases h2; exact h.err D j c a h1 e
    | ok y =>
      obtain ⟨z, m⟩ := y
      rw [thenR_ok e] at h2
      exact (hf z).err D m c a (h.ok D j z m h1 e).2 h2
  · obtain ⟨z, m, e, e2⟩ := thenR_inv h2
    have q := h.ok D j z m h1 e
    have q2 := (hf z).ok D m x k q.2 e2
    exact ⟨Nat.le_trans q.1 q2.1, q2.2⟩
theorem take_four {D : List UInt8} (h : D.take 4 = magC) : 4 ≤ D.length := by
  have := congrArg List.length h
  rw [List.length_take] at this
  have e : magC.length = 4 := rfl
  omega
/-! ### What holds of the heads and steps -/
structure InvC (p : PrgC) (t : TrkC) : Prop where
  steps : 0 ≤ t.steps ∧ t.steps ≤ 131073
  heads : ∀ h ∈ t.opn, (0 ≤ h.ahead ∧ h.ahead ≤ 131073) ∧ (1 ≤ h.times ∧ h.times ≤ 2048) ∧ (0 ≤ h.counter ∧ h.counter < p.cnt) ∧ 0 ≤ h.place
theorem addC_le (s k : Int) : addC s k ≤ 131073 := by unfold addC; omega
theorem lets_head {p : PrgC} {q : OpC} (h : letsC p q = true) (hk : q.kind = 1) : (0 ≤ q.a ∧ q.a < p.cnt) ∧ 1 ≤ q.b ∧ q.b ≤ 2048 := by
  unfold letsC at h
  rw [hk] at h
  simp only [Bool.and_eq_true, naC_iff, wiC_iff] at h
  exact h
theorem mul_nonneg1 {a b : Int} (ha : 1 ≤ a) (hb : 1 ≤ b) : 1 ≤ a * b := by
  have : 1 * 1 ≤ a * b := Int.mul_le_mul ha hb (by decide) (by omega)
  omega
theorem pass_inv {p : PrgC} {q : OpC} {k : Nat} {t : TrkC} (h : InvC p t) (hl : letsC p q = true) : InvC p (passC q k t).2 := by
  unfold passC
  by_cases h1 : q.kind = 1
  · rw [if_pos h1]
    by_cases h2 : hasC t.opn q.a = true
    · rw [if_pos h2]; exact h
    · rw [if_neg h2]
      refine ⟨⟨Int.le_refl _, show (0 : Int) ≤ 131073 by decide⟩, fun x hx => ?_⟩
      rcases List.mem_append.1 hx with hx | hx
      · exact h.heads x hx
      · rw [List.mem_singleton.1 hx]
        obtain ⟨q1, q2⟩ := lets_head hl h1
        exact ⟨h.steps, q2, q1, Int.natCast_nonneg _⟩
  · rw [if_neg h1]
    by_cases h2 : q.kind = 2
    · rw [if_pos h2]
      cases e : t.opn.getLast? with
      | none => exact h
      | some x =>
        simp only
        by_cases h3 : q.a = x.counter ∧ q.b = x.place + 1
        · rw [if_pos h3]
          have hx := h.heads x (List.mem_of_getLast? e)
          have := mul_nonneg1 hx.2.1.1 (show 1 ≤ t.steps + 1 by have := h.steps.1; omega)
          exact ⟨⟨show 0 ≤ addC x.ahead _ by unfold addC; omega, addC_le _ _⟩, fun y hy => h.heads y (List.dropLast_subset _ hy)⟩
        · rw [if_neg h3]; exact h
    · rw [if_neg h2]
      by_cases h3 : q.kind = 0 ∧ t.opn ≠ []
      · rw [if_pos h3]; exact h
      · rw [if_neg h3]
        have := h.steps
        exact ⟨⟨show 0 ≤ addC t.steps 1 by unfold addC; omega, addC_le _ _⟩, h.heads⟩
theorem run_inv (p : PrgC) : ∀ k, InvC p (runC p k).2
  | 0 => ⟨⟨Int.le_refl _, show (0 : Int) ≤ 131073 by decide⟩, fun h hh => by cases hh⟩
  | k + 1 => by
    have ih := run_inv p k
    rw [runC]
    by_cases h1 : (runC p k).1 = 0
    · rw [if_pos h1]
      by_cases h2 : mayC p (nthO p.ops k) k = true
      · rw [if_pos h2]; exact pass_inv ih (may_lets h2).1
      · rw [if_neg h2]; exact ih
    · rw [if_neg h1]; exact ih
/-! ### Done one by one -/
def updC (c : Int → Int) (a x : Int) : Int → Int := fun y => if y = a then x else c y
def goC (p : PrgC) (s : Nat × (Int → Int)) : Nat × (Int → Int) :=
  if (nthO p.ops s.1).kind = 1 then (s.1 + 1, updC s.2 (nthO p.ops s.1).a (nthO p.ops s.1).b)
  else if (nthO p.ops s.1).kind = 2 then (if 0 < s.2 (nthO p.ops s.1).a - 1 then (nthO p.ops s.1).b.toNat else s.1 + 1, updC s.2 (nthO p.ops s.1).a (s.2 (nthO p.ops s.1).a - 1))
  else (s.1 + 1, s.2)
structure OkC (p : PrgC) (s : Nat × (Int → Int)) : Prop where
  lt : s.1 < p.ops.length
  notEnd : (nthO p.ops s.1).kind ≠ 0
  head : (nthO p.ops s.1).kind = 1 → s.2 (nthO p.ops s.1).a = 0
  back : (nthO p.ops s.1).kind = 2 → 1 ≤ s.2 (nthO p.ops s.1).a
def exeC (p : PrgC) : Nat → Nat × (Int → Int) → Nat × (Int → Int)
  | 0, s => s
  | n + 1, s => exeC p n (goC p s)
def FineC (p : PrgC) : Nat → Nat × (Int → Int) → Prop
  | 0, _ => True
  | n + 1, s => OkC p s ∧ FineC p n (goC p s)
theorem exe_add (p : PrgC) : ∀ (a b : Nat) (s : Nat × (Int → Int)), exeC p (a + b) s = exeC p b (exeC p a s)
  | 0, b, s => by rw [Nat.zero_add]; rfl
  | a + 1, b, s => by rw [show a + 1 + b = (a + b) + 1 by omega]; exact exe_add p a b (goC p s)
theorem fine_add (p : PrgC) : ∀ (a b : Nat) (s : Nat × (Int → Int)), FineC p a s → FineC p b (exeC p a s) → FineC p (a + b) s
  | 0, b, s, _, h => by rw [Nat.zero_add]; exact h
  | a + 1, b, s, h, h2 => by rw [show a + 1 + b = (a + b) + 1 by omega]; exact ⟨h.1, fine_add p a b (goC p s) h.2 h2⟩
/-- From one state on, so many operations lead to another one. -/
def Leads (p : PrgC) (n : Nat) (s s' : Nat × (Int → Int)) : Prop := FineC p n s ∧ exeC p n s = s'
theorem Leads.trans {p : PrgC} {a b : Nat} {s t u : Nat × (Int → Int)} (h : Leads p a s t) (h2 : Leads p b t u) : Leads p (a + b) s u := by
  obtain ⟨h1, rfl⟩ := h
  exact ⟨fine_add p a b s h1 h2.1, by rw [exe_add]; exact h2.2⟩
theorem Leads.ok {p : PrgC} : ∀ {n : Nat} {s s' : Nat × (Int → Int)}, Leads p n s s' → ∀ k, k < n → OkC p (exeC p k s)
  | 0, _, _, _, k, hk => absurd hk (Nat.not_lt_zero _)
  | n + 1, s, s', h, k, hk => by
    cases k with
    | zero => exact h.1.1
    | succ k => exact Leads.ok (n := n) (s := goC p s) (s' := s') ⟨h.1.2, h.2⟩ k (Nat.lt_of_succ_lt_succ hk)
theorem first_drop (f : Nat → Nat) (L a : Nat) (ha : L < f a) : ∀ d, f (a + d) ≤ L → ∃ k, a ≤ k ∧ k < a + d ∧ (∀ m, a ≤ m → m ≤ k → L < f m) ∧ f (k + 1) ≤ L
  | 0, h => by rw [Nat.add_zero] at h; omega
  | d + 1, h => by
    by_cases hd : f (a + d) ≤ L
    · obtain ⟨k, q1, q2, q3⟩ := first_drop f L a ha d hd
      exact ⟨k, q1, by omega, q3⟩
    · by_cases hall : ∀ m, a ≤ m → m ≤ a + d → L < f m
      · exact ⟨a + d, by omega, by omega, hall, h⟩
      · have : ∃ m, a ≤ m ∧ m ≤ a + d ∧ f m ≤ L := by
          apply Classical.byContradiction
          intro hn
          exact hall fun m h1 h2 => Nat.lt_of_not_le fun h3 => hn ⟨m, h1, h2, h3⟩
        obtain ⟨m, h1, h2, h3⟩ := this
        have hm : m ≤ a + d := h2
        by_cases he : m = a + d
        · rw [he] at h3; exact absurd h3 hd
        · obtain ⟨e, rfl⟩ : ∃ e, m = a + e := ⟨m - a, by omega⟩
          obtain ⟨k, q1, q2, q3⟩ := first_drop f L a ha e h3
          exact ⟨k, q1, by omega, q3⟩
section
variable {p : PrgC}
def opnC (p : PrgC) (k : Nat) : List HdC := (runC p k).2.opn
def stpC (p : PrgC) (k : Nat) : Int := (runC p k).2.steps
theorem pass_len (q : OpC) (k : Nat) (t : TrkC) (L : Nat) (hL : L ≤ t.opn.length) (hL2 : L ≤ (passC q k t).2.opn.length) : (passC q k t).2.opn.take L = t.opn.take L := by
  unfold passC at hL2 ⊢
  by_cases h1 : q.kind = 1
  · rw [if_pos h1] at hL2 ⊢
    by_cases h2 : hasC t.opn q.a = true
    · rw [if_pos h2]
    · rw [if_neg h2]; exact List.take_append_of_le_length hL
  · rw [if_neg h1] at hL2 ⊢
    by_cases h2 : q.kind = 2
    · rw [if_pos h2] at hL2 ⊢
      cases e : t.opn.getLast? with
      | none => rfl
      | some x =>
        rw [e] at hL2
        simp only at hL2 ⊢
        by_cases h3 : q.a = x.counter ∧ q.b = x.place + 1
        · rw [if_pos h3] at hL2 ⊢
          simp only [List.length_dropLast] at hL2 ⊢
          rw [List.dropLast_eq_take, List.take_take, Nat.min_eq_left hL2]
        · rw [if_neg h3]
    · rw [if_neg h2] at hL2 ⊢
      by_cases h3 : q.kind = 0 ∧ t.opn ≠ []
      · rw [if_pos h3]
      · rw [if_neg h3]
theorem keep_take {n L i : Nat} (hr : (runC p n).1 = 0) : ∀ d, i + d ≤ n → (∀ m, i ≤ m → m ≤ i + d → L ≤ (opnC p m).length) → (opnC p (i + d)).take L = (opnC p i).take L
  | 0, _, _ => rfl
  | d + 1, hd, h => by
    have ih := keep_take (i := i) hr d (by omega) fun m h1 h2 => h m h1 (by omega)
    obtain ⟨-, -, e⟩ := run_step hr (show i + d < n by omega)
    have e2 : opnC p (i + (d + 1)) = (passC (nthO p.ops (i + d)) (i + d : Nat) (runC p (i + d)).2).2.opn := by
      unfold opnC; rw [← Nat.add_assoc, e]
    rw [← ih, e2]
    exact pass_len _ _ _ L (h (i + d) (by omega) (by omega)) (by rw [← e2]; exact h _ (by omega) (by omega))
/-- What an operation that goes through does, kind by kind. -/
theorem pass_head {n k : Nat} (hr : (runC p n).1 = 0) (hk : k < n) (h1 : (nthO p.ops k).kind = 1) : hasC (opnC p k) (nthO p.ops k).a = false ∧ opnC p (k + 1) = opnC p k ++ [⟨k, (nthO p.ops k).a, (nthO p.ops k).b, stpC p k⟩] ∧ stpC p (k + 1) = 0 := by
  obtain ⟨-, e0, e⟩ := run_step hr hk
  unfold opnC stpC
  rw [e]
  unfold passC at e0 ⊢
  rw [if_pos h1] at e0 ⊢
  by_cases h2 : hasC (runC p k).2.opn (nthO p.ops k).a = true
  · rw [if_pos h2] at e0; cases e0
  · rw [if_neg h2]
    exact ⟨by simpa using h2, rfl, rfl⟩
theorem pass_back {n k : Nat} (hr : (runC p n).1 = 0) (hk : k < n) (h2 : (nthO p.ops k).kind = 2) : ∃ h, opnC p k = opnC p (k + 1) ++ [h] ∧ (nthO p.ops k).a = h.counter ∧ (nthO p.ops k).b = h.place + 1 ∧ stpC p (k + 1) = addC h.ahead (1 + h.times * (stpC p k + 1)) := by
  obtain ⟨-, e0, e⟩ := run_step hr hk
  unfold opnC stpC
  rw [e]
  unfold passC at e0 ⊢
  rw [if_neg (by omega), if_pos h2] at e0 ⊢
  cases e1 : (runC p k).2.opn.getLast? with
  | none => rw [e1] at e0; cases e0
  | some x =>
    rw [e1] at e0
    simp only at e0 ⊢
    by_cases h3 : (nthO p.ops k).a = x.counter ∧ (nthO p.ops k).b = x.place + 1
    · rw [if_pos h3]
      refine ⟨x, ?_, h3.1, h3.2, rfl⟩
      have hne : (runC p k).2.opn ≠ [] := fun e => by rw [e] at e1; cases e1
      have := List.dropLast_concat_getLast hne
      rw [List.getLast?_eq_some_getLast hne] at e1
      cases e1
      exact this.symm
    · rw [if_neg h3] at e0; cases e0
theorem pass_plain {n k : Nat} (hr : (runC p n).1 = 0) (hk : k < n) (h1 : (nthO p.ops k).kind ≠ 1) (h2 : (nthO p.ops k).kind ≠ 2) : opnC p (k + 1) = opnC p k ∧ stpC p (k + 1) = addC (stpC p k) 1 ∧ ((nthO p.ops k).kind = 0 → opnC p k = []) := by
  obtain ⟨-, e0, e⟩ := run_step hr hk
  unfold opnC stpC
  rw [e]
  unfold passC at e0 ⊢
  rw [if_neg h1, if_neg h2] at e0 ⊢
  by_cases h3 : (nthO p.ops k).kind = 0 ∧ (runC p k).2.opn ≠ []
  · rw [if_pos h3] at e0; cases e0
  · rw [if_neg h3]
    exact ⟨rfl, rfl, fun e => Classical.byContradiction fun hne => h3 ⟨e, hne⟩⟩
end
/-- What a loop adds, as the document caps it. -/
def loopC (x b : Int) : Int := if x < 131073 ∧ x + 1 ≤ 131073 / b then 1 + b * (x + 1) else 131073
theorem loop_add {s x b : Int} (hs : 0 ≤ s) (hx : 0 ≤ x ∧ x ≤ 131073) (hb : 1 ≤ b) : min 131073 (s + loopC x b) = addC s (1 + b * (x + 1)) := by
  unfold loopC addC
  by_cases h : x < 131073 ∧ x + 1 ≤ 131073 / b
  · rw [if_pos h]
  · rw [if_neg h]
    have key : 131073 ≤ b * (x + 1) := by
      by_cases h1 : x < 131073
      · have h2 : 131073 / b + 1 ≤ x + 1 := by omega
        have h3 : b * (131073 / b + 1) ≤ b * (x + 1) := Int.mul_le_mul_of_nonneg_left h2 (by omega)
        have h4 := Int.emod_add_mul_ediv 131073 b
        have h5 := Int.emod_lt_of_pos 131073 (show 0 < b by omega)
        rw [Int.mul_add, Int.mul_one] at h3
        omega
      · have h3 : 1 * (x + 1) ≤ b * (x + 1) := Int.mul_le_mul_of_nonneg_right hb (by omega)
        omega
    omega
variable {p : PrgC}
/-- The document's word on the loops. -/
def lopC (p : PrgC) : Int := if (runC p p.ops.length).1 = 0 then (if lastC p = true then 0 else 200) else (runC p p.ops.length).1
theorem lop_stop {p : PrgC} {k : Nat} (hk : k ≤ p.ops.length) (h : (runC p k).1 ≠ 0) : lopC p = (runC p k).1 := by
  have e := run_stop h (p.ops.length - k)
  rw [show k + (p.ops.length - k) = p.ops.length by omega] at e
  unfold lopC
  rw [e, if_neg h]
theorem lop_may {p : PrgC} {k : Nat} (hk : k < p.ops.length) (h0 : (runC p k).1 = 0) (h : mayC p (nthO p.ops k) k ≠ true) : lopC p = 200 := by
  have e : runC p (k + 1) = (200, (runC p k).2) := by rw [runC, if_pos h0, if_neg h]
  have := lop_stop (p := p) (k := k + 1) (by omega) (by rw [e]; show (200 : Int) ≠ 0; decide)
  rw [this, e]
theorem lop_pass {p : PrgC} {k : Nat} (hk : k < p.ops.length) (h0 : (runC p k).1 = 0) (hm : mayC p (nthO p.ops k) k = true) (h : (passC (nthO p.ops k) k (runC p k).2).1 ≠ 0) : lopC p = (passC (nthO p.ops k) k (runC p k).2).1 := by
  have e : runC p (k + 1) = passC (nthO p.ops k) k (runC p k).2 := by rw [runC, if_pos h0, if_pos hm]
  have := lop_stop (p := p) (k := k + 1) (by omega) (by rw [e]; exact h)
  rw [this, e]
theorem along_doc (p : PrgC) : (alongC p).2 = if lopC p = 0 then (if 131072 < stpC p p.ops.length then 5 else 0) else lopC p := by
  have hs := (run_inv p p.ops.length).steps
  unfold alongC lopC
  by_cases h1 : (runC p p.ops.length).1 = 0
  · rw [if_pos h1, if_pos h1]
    by_cases h2 : lastC p = true
    · rw [if_pos h2, if_pos h2, if_pos rfl]
      by_cases h3 : (runC p p.ops.length).2.steps = 131073
      · rw [if_pos h3, if_pos (show 131072 < stpC p p.ops.length by unfold stpC; omega)]
      · rw [if_neg h3, if_neg (show ¬ 131072 < stpC p p.ops.length by unfold stpC; omega)]
    · rw [if_neg h2, if_neg h2, if_neg (by decide)]
  · rw [if_neg h1, if_neg h1, if_neg h1]
/-- The document's Check, over what its loops tells. -/
theorem step_doc (K : Nat → List Int → Int) (p : PrgC) : (stepC K p).2 = if limC p = 0 then (if partsC K p.parts = 0 then (if linesC p.mem p.lines = 0 then (if lopC p = 0 then (if 131072 < stpC p p.ops.length then 5 else 0) else lopC p) else linesC p.mem p.lines) else partsC K p.parts) else limC p := by
  unfold stepC
  by_cases h1 : limC p = 0
  · rw [if_pos h1, if_pos h1]
    by_cases h2 : partsC K p.parts = 0
    · rw [if_pos h2, if_pos h2]
      by_cases h3 : linesC p.mem p.lines = 0
      · rw [if_pos h3, if_pos h3]
        exact along_doc p
      · rw [if_neg h3, if_neg h3]
    · rw [if_neg h2, if_neg h2]
  · rw [if_neg h1, if_neg h1]
/-- Each open head is one of the operations ahead. -/
theorem opn_at (p : PrgC) : ∀ k, ∀ h ∈ opnC p k, ∃ j : Nat, j < k ∧ h.place = (j : Int) ∧ h.counter = (nthO p.ops j).a
  | 0, h, hh => by cases hh
  | k + 1, h, hh => by
    have ih := opn_at p k
    have up : h ∈ opnC p k → ∃ j : Nat, j < k + 1 ∧ h.place = (j : Int) ∧ h.counter = (nthO p.ops j).a := fun hm => by
      obtain ⟨j, q1, q2⟩ := ih h hm
      exact ⟨j, by omega, q2⟩
    have e : opnC p (k + 1) = (runC p (k + 1)).2.opn := rfl
    rw [e, runC] at hh
    by_cases h0 : (runC p k).1 = 0
    · rw [if_pos h0] at hh
      by_cases hm : mayC p (nthO p.ops k) k = true
      · rw [if_pos hm] at hh
        unfold passC at hh
        by_cases h1 : (nthO p.ops k).kind = 1
        · rw [if_pos h1] at hh
          by_cases h2 : hasC (runC p k).2.opn (nthO p.ops k).a = true
          · rw [if_pos h2] at hh; exact up hh
          · rw [if_neg h2] at hh
            rcases List.mem_append.1 hh with h3 | h3
            · exact up h3
            · rw [List.mem_singleton] at h3
              subst h3
              exact ⟨k, Nat.lt_succ_self _, rfl, rfl⟩
        · rw [if_neg h1] at hh
          by_cases h2 : (nthO p.ops k).kind = 2
          · rw [if_pos h2] at hh
            cases e1 : (runC p k).2.opn.getLast? with
            | none => rw [e1] at hh; exact up hh
            | some x =>
              rw [e1] at hh
              simp only at hh
              by_cases h3 : (nthO p.ops k).a = x.counter ∧ (nthO p.ops k).b = x.place + 1
              · rw [if_pos h3] at hh
                exact up (List.dropLast_subset _ hh)
              · rw [if_neg h3] at hh; exact up hh
          · rw [if_neg h2] at hh
            by_cases h3 : (nthO p.ops k).kind = 0 ∧ (runC p k).2.opn ≠ []
            · rw [if_pos h3] at hh; exact up hh
            · rw [if_neg h3] at hh; exact up hh
      · rw [if_neg hm] at hh; exact up hh
    · rw [if_neg h0] at hh; exact up hh
/-- The heads as they lie: their places. -/
def plcO (p : PrgC) (k : Nat) : List Int := (opnC p k).map HdC.place
theorem plcO_len (p : PrgC) (k : Nat) : (plcO p k).length = (opnC p k).length := List.length_map ..
theorem plcO_nth {p : PrgC} {k m : Nat} (h : m < (opnC p k).length) : ∃ (j : Nat) (hd : HdC), j < k ∧ (plcO p k)[m]? = some (j : Int) ∧ (opnC p k)[m]? = some hd ∧ hd.place = (j : Int) ∧ hd.counter = (nthO p.ops j).a := by
  obtain ⟨j, q1, q2, q3⟩ := opn_at p k _ (List.getElem_mem h)
  refine ⟨j, (opnC p k)[m], q1, ?_, List.getElem?_eq_getElem h, q2, q3⟩
  unfold plcO
  rw [List.getElem?_map, List.getElem?_eq_getElem h, ← q2]
  rfl
theorem has_none {o : List HdC} {c : Int} (h : ∀ (m : Nat) (x : HdC), o[m]? = some x → x.counter ≠ c) : hasC o c = false := by
  apply Bool.eq_false_iff.2
  intro e
  unfold hasC at e
  obtain ⟨x, hx, e2⟩ := List.any_eq_true.1 e
  obtain ⟨m, hm⟩ := List.getElem?_of_mem hx
  exact h m x hm (of_decide_eq_true e2)
theorem has_some {o : List HdC} {c : Int} {m : Nat} {x : HdC} (h : o[m]? = some x) (e : x.counter = c) : hasC o c = true := by
  unfold hasC
  exact List.any_eq_true.2 ⟨x, List.mem_of_getElem? h, decide_eq_true e⟩
theorem opn_last {o : List HdC} {x : HdC} (h : o[o.length - 1]? = some x) : o.getLast? = some x := by
  rw [List.getLast?_eq_getElem?]; exact h
/-- One more operation, where nothing was wrong so far. -/
theorem run_next {p : PrgC} {k : Nat} (h0 : (runC p k).1 = 0) (hm : mayC p (nthO p.ops k) k = true) : runC p (k + 1) = passC (nthO p.ops k) k (runC p k).2 := by
  rw [runC, if_pos h0, if_pos hm]
theorem next_head {p : PrgC} {k : Nat} (h0 : (runC p k).1 = 0) (hm : mayC p (nthO p.ops k) k = true) (h1 : (nthO p.ops k).kind = 1) (hn : hasC (opnC p k) (nthO p.ops k).a = false) : (runC p (k + 1)).1 = 0 ∧ plcO p (k + 1) = plcO p k ++ [(k : Int)] := by
  have e := run_next h0 hm
  unfold passC at e
  rw [if_pos h1, if_neg (show ¬ hasC (runC p k).2.opn (nthO p.ops k).a = true by rw [show hasC (runC p k).2.opn (nthO p.ops k).a = false from hn]; decide)] at e
  refine ⟨by rw [e], ?_⟩
  unfold plcO
  rw [show opnC p (k + 1) = (runC p (k + 1)).2.opn from rfl, e]
  exact List.map_append ..
theorem head_twice {p : PrgC} {k : Nat} (hk : k < p.ops.length) (h0 : (runC p k).1 = 0) (hm : mayC p (nthO p.ops k) k = true) (h1 : (nthO p.ops k).kind = 1) (hn : hasC (opnC p k) (nthO p.ops k).a = true) : lopC p = 201 := by
  have e : (passC (nthO p.ops k) k (runC p k).2).1 = 201 := by
    unfold passC
    rw [if_pos h1, if_pos (show hasC (runC p k).2.opn (nthO p.ops k).a = true from hn)]
  rw [lop_pass hk h0 hm (by rw [e]; decide), e]
theorem next_back {p : PrgC} {k : Nat} (h0 : (runC p k).1 = 0) (hm : mayC p (nthO p.ops k) k = true) (h2 : (nthO p.ops k).kind = 2) {x : HdC} (hx : (opnC p k)[(opnC p k).length - 1]? = some x) (ha : (nthO p.ops k).a = x.counter) (hb : (nthO p.ops k).b = x.place + 1) : (runC p (k + 1)).1 = 0 ∧ plcO p k = plcO p (k + 1) ++ [x.place] := by
  have e := run_next h0 hm
  have hl : (runC p k).2.opn.getLast? = some x := opn_last hx
  unfold passC at e
  rw [if_neg (by omega), if_pos h2, hl] at e
  simp only at e
  rw [if_pos ⟨ha, hb⟩] at e
  refine ⟨by rw [e], ?_⟩
  unfold plcO
  rw [show opnC p (k + 1) = (runC p (k + 1)).2.opn from rfl, e]
  show (runC p k).2.opn.map _ = (runC p k).2.opn.dropLast.map _ ++ [x.place]
  have : (runC p k).2.opn = (runC p k).2.opn.dropLast ++ [x] := by
    obtain ⟨hne, e3⟩ := List.getLast?_eq_some_iff.1 hl
    rw [e3, List.dropLast_concat]
  conv => lhs; rw [this]
  rw [List.map_append]; rfl
theorem back_none {p : PrgC} {k : Nat} (hk : k < p.ops.length) (h0 : (runC p k).1 = 0) (hm : mayC p (nthO p.ops k) k = true) (h2 : (nthO p.ops k).kind = 2) (hx : (opnC p k).length = 0) : lopC p = 201 := by
  have e : (passC (nthO p.ops k) k (runC p k).2).1 = 201 := by
    unfold passC
    rw [if_neg (by omega), if_pos h2, show (runC p k).2.opn = [] from List.eq_nil_of_length_eq_zero hx]
    rfl
  rw [lop_pass hk h0 hm (by rw [e]; decide), e]
theorem back_wrong {p : PrgC} {k : Nat} (hk : k < p.ops.length) (h0 : (runC p k).1 = 0) (hm : mayC p (nthO p.ops k) k = true) (h2 : (nthO p.ops k).kind = 2) {x : HdC} (hx : (opnC p k)[(opnC p k).length - 1]? = some x) (hn : ¬ ((nthO p.ops k).a = x.counter ∧ (nthO p.ops k).b = x.place + 1)) : lopC p = 201 := by
  have e : (passC (nthO p.ops k) k (runC p k).2).1 = 201 := by
    unfold passC
    rw [if_neg (by omega), if_pos h2, show (runC p k).2.opn.getLast? = some x from opn_last hx]
    simp only
    rw [if_neg hn]
  rw [lop_pass hk h0 hm (by rw [e]; decide), e]
theorem end_open {p : PrgC} {k : Nat} (hk : k < p.ops.length) (h0 : (runC p k).1 = 0) (hm : mayC p (nthO p.ops k) k = true) (hk0 : (nthO p.ops k).kind = 0) (hx : 0 < (opnC p k).length) : lopC p = 201 := by
  have hne : (runC p k).2.opn ≠ [] := fun e => by
    rw [show opnC p k = (runC p k).2.opn from rfl, e] at hx; exact absurd hx (Nat.lt_irrefl _)
  have e : (passC (nthO p.ops k) k (runC p k).2).1 = 201 := by
    unfold passC
    rw [if_neg (by omega), if_neg (by omega), if_pos ⟨hk0, hne⟩]
  rw [lop_pass hk h0 hm (by rw [e]; decide), e]
theorem next_plain {p : PrgC} {k : Nat} (h0 : (runC p k).1 = 0) (hm : mayC p (nthO p.ops k) k = true) (h1 : (nthO p.ops k).kind ≠ 1) (h2 : (nthO p.ops k).kind ≠ 2) (hx : (nthO p.ops k).kind = 0 → (opnC p k).length = 0) : (runC p (k + 1)).1 = 0 ∧ plcO p (k + 1) = plcO p k := by
  have e := run_next h0 hm
  unfold passC at e
  rw [if_neg h1, if_neg h2, if_neg (fun ⟨a, b⟩ => b (List.eq_nil_of_length_eq_zero (hx a)))] at e
  refine ⟨by rw [e], ?_⟩
  unfold plcO
  rw [show opnC p (k + 1) = (runC p (k + 1)).2.opn from rfl, e]
  rfl
theorem lop_end {p : PrgC} (h0 : (runC p p.ops.length).1 = 0) : lopC p = if lastC p = true then 0 else 200 := by unfold lopC; rw [if_pos h0]
end Go.Proofs.Ytdjplmlfcolklaa
