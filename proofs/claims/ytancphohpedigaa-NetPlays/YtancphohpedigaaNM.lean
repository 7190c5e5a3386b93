/- Nets, plainly: what is wrong with one, which arcs lead to a node, what a firing does. No program is named here. -/
import Derived.Test.YtancphohpedigaaApartM
namespace Go.Proofs.Ytancphohpedigaa
open Go.RowKit

structure NA where
  f : Int
  t : Int
  g : Int
  k : Int
  s : Int
structure NN where
  nodes : Int
  arcs : List NA
def nthNa (L : List NA) (i : Nat) : NA := L.getD i ⟨0, 0, 0, 0, 0⟩
def arcE (m : Int) (a : NA) : Int :=
  if a.f < 0 ∨ m ≤ a.f ∨ a.t < 0 ∨ m ≤ a.t then 100 else if a.g < 1 ∨ 64 < a.g ∨ a.k < 1 ∨ 64 < a.k then 101 else if a.s < 0 ∨ 256 < a.s then 88 else 0
def arcsE (m : Int) : List NA → Int
  | [] => 0
  | a :: L => if arcE m a = 0 then arcsE m L else arcE m a
def checkN (n : NN) : Int := if n.nodes < 1 ∨ 32 < n.nodes then 100 else if 96 < n.arcs.length then 81 else arcsE n.nodes n.arcs
theorem nthNa_zero (a : NA) (L : List NA) : nthNa (a :: L) 0 = a := rfl
theorem nthNa_succ (a : NA) (L : List NA) (i : Nat) : nthNa (a :: L) (i + 1) = nthNa L i := rfl
theorem arcs_none {m : Int} : ∀ {L : List NA}, (∀ i, i < L.length → arcE m (nthNa L i) = 0) → arcsE m L = 0
  | [], _ => rfl
  | a :: L, h => by
    unfold arcsE
    rw [if_pos (show arcE m a = 0 from h 0 (Nat.succ_pos _))]
    exact arcs_none fun i hi => h (i + 1) (Nat.succ_lt_succ hi)
theorem arcs_some {m : Int} : ∀ {L : List NA} {i : Nat}, i < L.length → (∀ j, j < i → arcE m (nthNa L j) = 0) → arcE m (nthNa L i) ≠ 0 → arcsE m L = arcE m (nthNa L i)
  | [], i, hi, _, _ => absurd hi (Nat.not_lt_zero _)
  | a :: L, 0, _, _, h => by unfold arcsE; rw [nthNa_zero] at h ⊢; rw [if_neg h]
  | a :: L, i + 1, hi, hb, h => by
    unfold arcsE
    rw [if_pos (show arcE m a = 0 from hb 0 (Nat.succ_pos _))]
    exact arcs_some (Nat.lt_of_succ_lt_succ hi) (fun j hj => hb (j + 1) (Nat.succ_lt_succ hj)) h
theorem arcs_zero {m : Int} : ∀ {L : List NA}, arcsE m L = 0 → ∀ i, i < L.length → arcE m (nthNa L i) = 0
  | [], _, i, hi => absurd hi (Nat.not_lt_zero _)
  | a :: L, h, i, hi => by
    unfold arcsE at h
    by_cases h0 : arcE m a = 0
    · rw [if_pos h0] at h
      cases i with
      | zero => exact h0
      | succ i => exact arcs_zero h i (Nat.lt_of_succ_lt_succ hi)
    · rw [if_neg h0] at h; exact absurd h h0
structure SoundA (m : Int) (a : NA) : Prop where
  f : 0 ≤ a.f ∧ a.f < m
  t : 0 ≤ a.t ∧ a.t < m
  g : 1 ≤ a.g ∧ a.g ≤ 64
  k : 1 ≤ a.k ∧ a.k ≤ 64
  s : 0 ≤ a.s ∧ a.s ≤ 256
structure SoundN (n : NN) : Prop where
  nodes : 1 ≤ n.nodes ∧ n.nodes ≤ 32
  most : n.arcs.length ≤ 96
  arcs : ∀ i, i < n.arcs.length → SoundA n.nodes (nthNa n.arcs i)
theorem arcE_zero {m : Int} {a : NA} (h : arcE m a = 0) : SoundA m a := by
  unfold arcE at h
  split at h
  · exact absurd h (by decide)
  · split at h
    · exact absurd h (by decide)
    · split at h
      · exact absurd h (by decide)
      · exact ⟨by omega, by omega, by omega, by omega, by omega⟩
theorem check_sound {n : NN} (h : checkN n = 0) : SoundN n := by
  unfold checkN at h
  split at h
  · exact absurd h (by decide)
  · split at h
    · exact absurd h (by decide)
    · exact ⟨by omega, by omega, fun i hi => arcE_zero (arcs_zero h i hi)⟩
theorem arcE_cases (m : Int) (a : NA) : arcE m a = 0 ∨ arcE m a = 100 ∨ arcE m a = 101 ∨ arcE m a = 88 := by
  unfold arcE
  split
  · simp
  · split
    · simp
    · split <;> simp
/-- The places below q of the arcs that p takes, rising. -/
def posU (p : NA → Bool) (A : List NA) (q : Nat) : List Int := ((List.range q).filter fun j => p (nthNa A j)).map Int.ofNat
def toB (v : Int) (a : NA) : Bool := decide (a.t = v)
def fromB (v : Int) (a : NA) : Bool := decide (a.f = v)
def inArcsN (n : NN) (v : Int) : List Int := posU (toB v) n.arcs n.arcs.length
def outArcsN (n : NN) (v : Int) : List Int := posU (fromB v) n.arcs n.arcs.length
theorem posU_zero (p : NA → Bool) (A : List NA) : posU p A 0 = [] := rfl
theorem posU_yes {p : NA → Bool} {A : List NA} {q : Nat} (h : p (nthNa A q) = true) : posU p A (q + 1) = posU p A q ++ [(q : Int)] := by
  simp [posU, List.range_succ, h]
theorem posU_no {p : NA → Bool} {A : List NA} {q : Nat} (h : p (nthNa A q) = false) : posU p A (q + 1) = posU p A q := by
  simp [posU, List.range_succ, h]
theorem posU_len (p : NA → Bool) (A : List NA) (q : Nat) : (posU p A q).length ≤ q := by
  have := List.length_filter_le (fun j => p (nthNa A j)) (List.range q)
  simp only [List.length_range] at this
  simpa [posU] using this
theorem posU_nth {p : NA → Bool} {A : List NA} : ∀ {q k : Nat}, k < (posU p A q).length → ∃ i : Nat, nth (posU p A q) k = (i : Int) ∧ i < q ∧ p (nthNa A i) = true
  | 0, k, h => absurd h (Nat.not_lt_zero _)
  | q + 1, k, h => by
    cases hp : p (nthNa A q) with
    | false =>
      rw [posU_no hp] at h ⊢
      obtain ⟨i, h1, h2, h3⟩ := posU_nth h
      exact ⟨i, h1, by omega, h3⟩
    | true =>
      rw [posU_yes hp] at h ⊢
      by_cases hk : k < (posU p A q).length
      · obtain ⟨i, h1, h2, h3⟩ := posU_nth hk
        refine ⟨i, ?_, by omega, h3⟩
        rw [← h1]; unfold nth; rw [List.getD_eq_getElem?_getD, List.getD_eq_getElem?_getD, List.getElem?_append_left hk]
      · have e : k = (posU p A q).length := by simp at h; omega
        subst e
        exact ⟨q, by unfold nth; simp, by omega, hp⟩
theorem posU_rise {p : NA → Bool} {A : List NA} : ∀ {q j k : Nat}, j < k → k < (posU p A q).length → nth (posU p A q) j < nth (posU p A q) k
  | 0, _, _, _, h => absurd h (Nat.not_lt_zero _)
  | q + 1, j, k, hj, h => by
    cases hp : p (nthNa A q) with
    | false =>
      rw [posU_no hp] at h ⊢
      exact posU_rise hj h
    | true =>
      rw [posU_yes hp] at h ⊢
      by_cases hk : k < (posU p A q).length
      · have := posU_rise (p := p) (A := A) (q := q) hj hk
        unfold nth at this ⊢
        rw [List.getD_eq_getElem?_getD, List.getD_eq_getElem?_getD] at this ⊢
        rw [List.getElem?_append_left hk, List.getElem?_append_left (by omega)]
        exact this
      · have e : k = (posU p A q).length := by simp at h; omega
        subst e
        obtain ⟨i, h1, h2, _⟩ := posU_nth (p := p) (A := A) (q := q) hj
        have e1 : nth (posU p A q ++ [(q : Int)]) j = nth (posU p A q) j := by
          unfold nth; rw [List.getD_eq_getElem?_getD, List.getD_eq_getElem?_getD, List.getElem?_append_left hj]
        have e2 : nth (posU p A q ++ [(q : Int)]) (posU p A q).length = (q : Int) := by unfold nth; simp
        rw [e1, e2, h1]; omega
theorem posU_has {p : NA → Bool} {A : List NA} : ∀ {q i : Nat}, i < q → p (nthNa A i) = true → ∃ k, k < (posU p A q).length ∧ nth (posU p A q) k = (i : Int)
  | 0, _, h, _ => absurd h (Nat.not_lt_zero _)
  | q + 1, i, h, hi => by
    by_cases e : i = q
    · subst e
      rw [posU_yes hi]
      exact ⟨(posU p A i).length, by simp, by unfold nth; simp⟩
    · obtain ⟨k, h1, h2⟩ := posU_has (p := p) (A := A) (q := q) (i := i) (by omega) hi
      cases hp : p (nthNa A q) with
      | false => rw [posU_no hp]; exact ⟨k, h1, h2⟩
      | true =>
        rw [posU_yes hp]
        refine ⟨k, by simp; omega, ?_⟩
        rw [← h2]; unfold nth; rw [List.getD_eq_getElem?_getD, List.getD_eq_getElem?_getD, List.getElem?_append_left h1]
/-- The first of some places on which there is too little, or -1. -/
def lackB (A : List NA) (T : List Int) (i : Int) : Bool := decide (nth T i.toNat < (nthNa A i.toNat).k)
def shortL (A : List NA) (T : List Int) : List Int → Int
  | [] => -1
  | i :: R => if lackB A T i = true then i else shortL A T R
def nodeB (n : NN) (v : Int) : Bool := decide (0 ≤ v ∧ v < n.nodes)
def shortN (n : NN) (T : List Int) (v : Int) : Int := if nodeB n v = true then shortL n.arcs T (inArcsN n v) else -1
def mayN (n : NN) (T : List Int) (v : Int) : Bool := nodeB n v && decide (shortL n.arcs T (inArcsN n v) = -1)
theorem short_here {A : List NA} {T : List Int} : ∀ {R : List Int} {k : Nat}, k < R.length → (∀ j, j < k → lackB A T (nth R j) = false) → lackB A T (nth R k) = true → shortL A T R = nth R k
  | [], k, hk, _, _ => absurd hk (Nat.not_lt_zero _)
  | x :: R, 0, _, _, h => by unfold shortL; exact if_pos h
  | x :: R, k + 1, hk, hb, h => by
    unfold shortL
    rw [if_neg (by rw [show lackB A T x = false from hb 0 (Nat.succ_pos _)]; decide)]
    exact short_here (Nat.lt_of_succ_lt_succ hk) (fun j hj => hb (j + 1) (Nat.succ_lt_succ hj)) h
theorem short_none {A : List NA} {T : List Int} : ∀ {R : List Int}, (∀ j, j < R.length → lackB A T (nth R j) = false) → shortL A T R = -1
  | [], _ => rfl
  | x :: R, h => by
    unfold shortL
    rw [if_neg (by rw [show lackB A T x = false from h 0 (Nat.succ_pos _)]; decide)]
    exact short_none fun j hj => h (j + 1) (Nat.succ_lt_succ hj)
theorem short_no {A : List NA} {T : List Int} : ∀ {R : List Int}, (∀ k, k < R.length → 0 ≤ nth R k) → shortL A T R = -1 → ∀ j, j < R.length → lackB A T (nth R j) = false
  | [], _, _, j, hj => absurd hj (Nat.not_lt_zero _)
  | x :: R, h0, h, j, hj => by
    unfold shortL at h
    split at h
    · have := h0 0 (Nat.succ_pos _)
      have e : nth (x :: R) 0 = x := rfl
      omega
    · rename_i hx
      cases j with
      | zero => exact Bool.eq_false_iff.2 hx
      | succ j => exact short_no (fun k hk => h0 (k + 1) (Nat.succ_lt_succ hk)) h j (Nat.lt_of_succ_lt_succ hj)
/-- Taking from the places of a row, one behind the other; giving to them. -/
def takeU (A : List NA) (R T : List Int) : Nat → List Int
  | 0 => T
  | q + 1 => (takeU A R T q).set (nth R q).toNat (wrap64 (nth (takeU A R T q) (nth R q).toNat - (nthNa A (nth R q).toNat).k))
def giveU (A : List NA) (R T : List Int) : Nat → List Int
  | 0 => T
  | q + 1 => (giveU A R T q).set (nth R q).toNat (wrap64 (nth (giveU A R T q) (nth R q).toNat + (nthNa A (nth R q).toNat).g))
theorem takeU_len (A : List NA) (R T : List Int) : ∀ q, (takeU A R T q).length = T.length
  | 0 => rfl
  | q + 1 => by unfold takeU; rw [List.length_set]; exact takeU_len A R T q
theorem giveU_len (A : List NA) (R T : List Int) : ∀ q, (giveU A R T q).length = T.length
  | 0 => rfl
  | q + 1 => by unfold giveU; rw [List.length_set]; exact giveU_len A R T q
def bumpF (F : List Int) (v : Int) : List Int := F.set v.toNat (wrap64 (nth F v.toNat + 1))
def fireN (n : NN) (T : List Int) (v : Int) : List Int := giveU n.arcs (outArcsN n v) (takeU n.arcs (inArcsN n v) T (inArcsN n v).length) (outArcsN n v).length
def firesN (n : NN) : List Int → List Int → List Int → Nat × List Int × List Int
  | [], T, F => (0, T, F)
  | v :: R, T, F => if mayN n T v = true then ((firesN n R (fireN n T v) (bumpF F v)).1 + 1, (firesN n R (fireN n T v) (bumpF F v)).2) else (0, T, F)
theorem fire_len (n : NN) (T : List Int) (v : Int) : (fireN n T v).length = T.length := by unfold fireN; rw [giveU_len, takeU_len]
theorem bump_len (F : List Int) (v : Int) : (bumpF F v).length = F.length := List.length_set
theorem wrap64_in (x : Int) : -9223372036854775808 ≤ wrap64 x ∧ wrap64 x ≤ 9223372036854775807 := by unfold wrap64; omega
theorem wrap64_id {x : Int} (h : -9223372036854775808 ≤ x ∧ x ≤ 9223372036854775807) : wrap64 x = x := by unfold wrap64; omega
theorem inR_setN {xs : List Int} {k : Nat} {x : Int} (h : InR xs) (hx : -9223372036854775808 ≤ x ∧ x ≤ 9223372036854775807) : InR (xs.set k x) := by
  intro j
  by_cases hk : k < xs.length
  · by_cases e : k = j
    · subst e; rw [nth_set_eq hk]; exact hx
    · rw [nth_set_ne e]; exact h j
  · rw [List.set_eq_of_length_le (by omega)]; exact h j
theorem takeU_in {A : List NA} {R T : List Int} (h : InR T) : ∀ q, InR (takeU A R T q)
  | 0 => h
  | q + 1 => inR_setN (takeU_in h q) (wrap64_in _)
theorem giveU_in {A : List NA} {R T : List Int} (h : InR T) : ∀ q, InR (giveU A R T q)
  | 0 => h
  | q + 1 => inR_setN (giveU_in h q) (wrap64_in _)
theorem fire_in {n : NN} {T : List Int} (v : Int) (h : InR T) : InR (fireN n T v) := giveU_in (takeU_in h _) _
theorem bump_in {F : List Int} (v : Int) (h : InR F) : InR (bumpF F v) := inR_setN h (wrap64_in _)
end Go.Proofs.Ytancphohpedigaa
