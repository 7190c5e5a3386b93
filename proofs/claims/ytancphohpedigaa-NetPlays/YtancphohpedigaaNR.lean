/- Nets, plainly: what may fire stays so; two firings change places. No program is named here. -/
import Derived.Test.YtancphohpedigaaNQ
namespace Go.Proofs.Ytancphohpedigaa
open Go.RowKit

theorem may_node {n : NN} {T : List Int} {v : Int} (h : mayN n T v = true) : nodeB n v = true := by unfold mayN at h; rw [Bool.and_eq_true] at h; exact h.1
theorem may_has {n : NN} {T : List Int} {v : Int} (h : mayN n T v = true) {i : Nat} (hi : i < n.arcs.length) (ht : (nthNa n.arcs i).t = v) : (nthNa n.arcs i).k ≤ nth T i := by
  unfold mayN at h
  rw [Bool.and_eq_true] at h
  have h2 : shortL n.arcs T (inArcsN n v) = -1 := of_decide_eq_true h.2
  obtain ⟨k, hk, e⟩ := posU_has (p := toB v) (A := n.arcs) (q := n.arcs.length) hi (by unfold toB; exact decide_eq_true ht)
  have h3 := short_no (A := n.arcs) (T := T) (R := inArcsN n v) posU_pos h2 k hk
  have e' : nth (inArcsN n v) k = (i : Int) := e
  rw [e'] at h3
  unfold lackB at h3
  rw [Int.toNat_natCast] at h3
  have := of_decide_eq_false h3
  omega
theorem may_of {n : NN} {T : List Int} {v : Int} (hv : nodeB n v = true) (h : ∀ i, i < n.arcs.length → (nthNa n.arcs i).t = v → (nthNa n.arcs i).k ≤ nth T i) : mayN n T v = true := by
  unfold mayN
  rw [hv, Bool.true_and]
  refine decide_eq_true (short_none fun j hj => ?_)
  obtain ⟨i, h1, h2, h3⟩ := posU_nth (p := toB v) (A := n.arcs) (q := n.arcs.length) hj
  have e : nth (inArcsN n v) j = (i : Int) := h1
  rw [e]
  unfold lackB
  rw [Int.toNat_natCast]
  refine decide_eq_false ?_
  have := h i h2 (of_decide_eq_true h3)
  omega
/-- Tokens that are few enough. -/
structure FewN (n : NN) (b : Int) (T : List Int) : Prop where
  len : T.length = n.arcs.length
  few : ∀ i, i < n.arcs.length → 0 ≤ nth T i ∧ nth T i ≤ b
theorem FewN.more {n : NN} {b b' : Int} {T : List Int} (h : FewN n b T) (hb : b ≤ b') : FewN n b' T := ⟨h.len, fun i hi => by have := h.few i hi; omega⟩
theorem fire_plain {n : NN} {T : List Int} {v b : Int} (hS : SoundN n) (h : FewN n b T) (hb : b ≤ 4611686018427387904) (hm : mayN n T v = true) {i : Nat} (hi : i < n.arcs.length) :
    nth (fireN n T v) i = nth T i - (if (nthNa n.arcs i).t = v then (nthNa n.arcs i).k else 0) + (if (nthNa n.arcs i).f = v then (nthNa n.arcs i).g else 0) := by
  have h1 := h.few i hi
  have hs := hS.arcs i hi
  have hk := hs.k; have hg := hs.g
  rw [fire_nth h.len (by rw [h.len]; exact hi)]
  unfold deltaN
  by_cases e1 : (nthNa n.arcs i).t = v
  · have h2 := may_has hm hi e1
    by_cases e2 : (nthNa n.arcs i).f = v
    · rw [if_pos e2, if_pos e1, if_pos e1, if_pos e2, wrap64_id (x := nth T i - _) (by omega), wrap64_id (by omega)]
    · rw [if_neg e2, if_pos e1, if_pos e1, if_neg e2, wrap64_id (by omega)]; omega
  · by_cases e2 : (nthNa n.arcs i).f = v
    · rw [if_pos e2, if_neg e1, if_neg e1, if_pos e2, wrap64_id (by omega)]; omega
    · rw [if_neg e2, if_neg e1, if_neg e1, if_neg e2]; omega
theorem fire_few {n : NN} {T : List Int} {v b : Int} (hS : SoundN n) (h : FewN n b T) (hb : b ≤ 4611686018427387904) (hm : mayN n T v = true) : FewN n (b + 64) (fireN n T v) := by
  refine ⟨by rw [fire_len]; exact h.len, fun i hi => ?_⟩
  rw [fire_plain hS h hb hm hi]
  have h1 := h.few i hi
  have hs := hS.arcs i hi
  have hk := hs.k; have hg := hs.g
  by_cases e1 : (nthNa n.arcs i).t = v
  · have h2 := may_has hm hi e1
    rw [if_pos e1]
    split <;> omega
  · rw [if_neg e1]
    split <;> omega
theorem fires_few {n : NN} (hS : SoundN n) : ∀ (zs T F : List Int) (b : Int), FewN n b T → b + 64 * (zs.length : Int) ≤ 4611686018427387904 → FewN n (b + 64 * (zs.length : Int)) (firesN n zs T F).2.1
  | [], T, F, b, h, _ => h.more (by simp)
  | v :: R, T, F, b, h, hb => by
    rw [List.length_cons] at hb ⊢
    unfold firesN
    cases hm : mayN n T v with
    | false => exact h.more (by omega)
    | true =>
      have h1 := fires_few hS R (fireN n T v) (bumpF F v) (b + 64) (fire_few hS h (by omega) hm) (by omega)
      exact h1.more (by omega)
theorem start_few {n : NN} (hS : SoundN n) {T : List Int} (hT : T = n.arcs.map NA.s) : FewN n 256 T := by
  subst hT
  refine ⟨List.length_map _, fun i hi => ?_⟩
  have e : nth (n.arcs.map NA.s) i = (nthNa n.arcs i).s := by
    unfold nth nthNa
    rw [List.getD_eq_getElem?_getD, List.getD_eq_getElem?_getD, List.getElem?_map, List.getElem?_eq_getElem hi]
    rfl
  rw [e]
  exact (hS.arcs i hi).s
/-- What may fire still may when another has fired. -/
theorem may_stays {n : NN} {T : List Int} {v u b : Int} (hS : SoundN n) (h : FewN n b T) (hb : b ≤ 4611686018427387904) (hv : mayN n T v = true) (hu : mayN n T u = true) (hne : v ≠ u) : mayN n (fireN n T v) u = true := by
  refine may_of (may_node hu) fun i hi ht => ?_
  have h1 := may_has hu hi ht
  have hg := (hS.arcs i hi).g
  rw [fire_plain hS h hb hv hi, if_neg (by rw [ht]; exact Ne.symm hne)]
  split <;> omega
theorem list_eq {xs ys : List Int} (hl : xs.length = ys.length) (h : ∀ i, i < xs.length → nth xs i = nth ys i) : xs = ys := by
  apply List.ext_getElem hl
  intro i h1 h2
  have := h i h1
  unfold nth at this
  rw [List.getD_eq_getElem?_getD, List.getD_eq_getElem?_getD, List.getElem?_eq_getElem h1, List.getElem?_eq_getElem h2] at this
  exact this
theorem fire_swap {n : NN} {T : List Int} {v u b : Int} (hS : SoundN n) (h : FewN n b T) (hb : b + 64 ≤ 4611686018427387904) (hv : mayN n T v = true) (hu : mayN n T u = true) (hne : v ≠ u) : fireN n (fireN n T v) u = fireN n (fireN n T u) v := by
  have m1 := may_stays hS h (by omega) hv hu hne
  have m2 := may_stays hS h (by omega) hu hv (Ne.symm hne)
  have f1 := fire_few hS h (by omega) hv
  have f2 := fire_few hS h (by omega) hu
  refine list_eq (by rw [fire_len, fire_len, fire_len, fire_len]) fun i hi => ?_
  have hi' : i < n.arcs.length := by rw [fire_len, fire_len, h.len] at hi; exact hi
  rw [fire_plain hS f1 hb m1 hi', fire_plain hS f2 hb m2 hi', fire_plain hS h (by omega) hv hi', fire_plain hS h (by omega) hu hi']
  omega
theorem bump_swap {F : List Int} {v u : Int} (hv : 0 ≤ v) (hu : 0 ≤ u) (hne : v ≠ u) : bumpF (bumpF F v) u = bumpF (bumpF F u) v := by
  have e : v.toNat ≠ u.toNat := by omega
  unfold bumpF
  rw [nth_set_ne e, nth_set_ne (Ne.symm e)]
  exact List.set_comm _ _ e
theorem fires_two {n : NN} {T F : List Int} {v u b : Int} (hS : SoundN n) (h : FewN n b T) (hb : b ≤ 4611686018427387904) (hv : mayN n T v = true) (hu : mayN n T u = true) (hne : v ≠ u) : firesN n [v, u] T F = (2, fireN n (fireN n T v) u, bumpF (bumpF F v) u) := by
  have m1 := may_stays hS h hb hv hu hne
  show (if mayN n T v = true then _ else _) = _
  rw [if_pos hv]
  have e : firesN n [u] (fireN n T v) (bumpF F v) = (1, fireN n (fireN n T v) u, bumpF (bumpF F v) u) := by
    show (if mayN n (fireN n T v) u = true then _ else _) = _
    rw [if_pos m1]
    rfl
  rw [e]
theorem fires_one (n : NN) (T F : List Int) (v : Int) : firesN n [v] T F = if mayN n T v = true then (1, fireN n T v, bumpF F v) else (0, T, F) := by
  show (if mayN n T v = true then _ else _) = _
  split <;> rfl
end Go.Proofs.Ytancphohpedigaa
