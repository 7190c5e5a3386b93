/- Nets, plainly: rows of firings. No program is named here. -/
import Derived.Test.YtancphohpedigaaNM
namespace Go.Proofs.Ytancphohpedigaa
open Go.RowKit

theorem fires_le (n : NN) : ∀ (zs T F : List Int), (firesN n zs T F).1 ≤ zs.length
  | [], _, _ => Nat.le_refl _
  | v :: R, T, F => by
    unfold firesN
    split
    · have := fires_le n R (fireN n T v) (bumpF F v)
      simp only [List.length_cons]; omega
    · exact Nat.zero_le _
theorem fires_append (n : NN) : ∀ (xs ys T F : List Int), firesN n (xs ++ ys) T F = if (firesN n xs T F).1 = xs.length then ((firesN n xs T F).1 + (firesN n ys (firesN n xs T F).2.1 (firesN n xs T F).2.2).1, (firesN n ys (firesN n xs T F).2.1 (firesN n xs T F).2.2).2) else firesN n xs T F
  | [], ys, T, F => by
    show firesN n ys T F = _
    rw [if_pos (by rfl)]
    show _ = (0 + (firesN n ys T F).1, (firesN n ys T F).2)
    rw [Nat.zero_add]
  | v :: R, ys, T, F => by
    have ih := fires_append n R ys (fireN n T v) (bumpF F v)
    have ec : ∀ Q, firesN n (v :: Q) T F = if mayN n T v = true then ((firesN n Q (fireN n T v) (bumpF F v)).1 + 1, (firesN n Q (fireN n T v) (bumpF F v)).2) else (0, T, F) := fun Q => rfl
    show firesN n (v :: (R ++ ys)) T F = _
    rw [ec, ec]
    cases hm : mayN n T v with
    | false => simp
    | true =>
      simp only [if_true]
      rw [ih]
      clear ec ih
      generalize firesN n R (fireN n T v) (bumpF F v) = r at *
      by_cases e : r.1 = R.length
      · rw [if_pos e, if_pos (by simp [e])]
        simp [Nat.add_right_comm]
      · rw [if_neg e, if_neg (by simp; exact e)]
theorem fires_len (n : NN) : ∀ (zs T F : List Int), (firesN n zs T F).2.1.length = T.length ∧ (firesN n zs T F).2.2.length = F.length
  | [], _, _ => ⟨rfl, rfl⟩
  | v :: R, T, F => by
    unfold firesN
    split
    · have := fires_len n R (fireN n T v) (bumpF F v)
      rw [fire_len, bump_len] at this
      exact this
    · exact ⟨rfl, rfl⟩
/-- What a firing does to an arc's tokens. -/
theorem takeU_nth {A : List NA} {R T : List Int} (hpos : ∀ k, k < R.length → 0 ≤ nth R k) (hr : ∀ j k, j < k → k < R.length → nth R j < nth R k) : ∀ q, q ≤ R.length → ∀ i, i < T.length → nth (takeU A R T q) i = if (∃ p, p < q ∧ nth R p = (i : Int)) then wrap64 (nth T i - (nthNa A i).k) else nth T i
  | 0, _, i, _ => by rw [if_neg (fun ⟨p, hp, _⟩ => by omega)]; rfl
  | q + 1, hq, i, hi => by
    have ih := takeU_nth (A := A) (T := T) hpos hr q (by omega)
    have h0 := hpos q (by omega)
    show nth ((takeU A R T q).set (nth R q).toNat _) i = _
    by_cases e : (nth R q).toNat = i
    · have e2 : nth R q = (i : Int) := by omega
      rw [e, nth_set_eq (by rw [takeU_len]; exact hi), ih i hi, if_neg (fun ⟨p, hp, hpe⟩ => by have := hr p q hp (by omega); omega), if_pos ⟨q, by omega, e2⟩]
    · rw [nth_set_ne e, ih i hi]
      by_cases hx : ∃ p, p < q ∧ nth R p = (i : Int)
      · rw [if_pos hx, if_pos (by obtain ⟨p, hp, h⟩ := hx; exact ⟨p, by omega, h⟩)]
      · rw [if_neg hx, if_neg (fun ⟨p, hp, h⟩ => by
          by_cases ep : p = q
          · subst ep; omega
          · exact hx ⟨p, by omega, h⟩)]
theorem giveU_nth {A : List NA} {R T : List Int} (hpos : ∀ k, k < R.length → 0 ≤ nth R k) (hr : ∀ j k, j < k → k < R.length → nth R j < nth R k) : ∀ q, q ≤ R.length → ∀ i, i < T.length → nth (giveU A R T q) i = if (∃ p, p < q ∧ nth R p = (i : Int)) then wrap64 (nth T i + (nthNa A i).g) else nth T i
  | 0, _, i, _ => by rw [if_neg (fun ⟨p, hp, _⟩ => by omega)]; rfl
  | q + 1, hq, i, hi => by
    have ih := giveU_nth (A := A) (T := T) hpos hr q (by omega)
    have h0 := hpos q (by omega)
    show nth ((giveU A R T q).set (nth R q).toNat _) i = _
    by_cases e : (nth R q).toNat = i
    · have e2 : nth R q = (i : Int) := by omega
      rw [e, nth_set_eq (by rw [giveU_len]; exact hi), ih i hi, if_neg (fun ⟨p, hp, hpe⟩ => by have := hr p q hp (by omega); omega), if_pos ⟨q, by omega, e2⟩]
    · rw [nth_set_ne e, ih i hi]
      by_cases hx : ∃ p, p < q ∧ nth R p = (i : Int)
      · rw [if_pos hx, if_pos (by obtain ⟨p, hp, h⟩ := hx; exact ⟨p, by omega, h⟩)]
      · rw [if_neg hx, if_neg (fun ⟨p, hp, h⟩ => by
          by_cases ep : p = q
          · subst ep; omega
          · exact hx ⟨p, by omega, h⟩)]
theorem posU_at {p : NA → Bool} {A : List NA} {q i : Nat} (hi : i < q) : (∃ k, k < (posU p A q).length ∧ nth (posU p A q) k = (i : Int)) ↔ p (nthNa A i) = true := by
  constructor
  · rintro ⟨k, hk, e⟩
    obtain ⟨j, h1, h2, h3⟩ := posU_nth hk
    have : j = i := by omega
    subst this; exact h3
  · exact fun h => posU_has hi h
theorem posU_pos {p : NA → Bool} {A : List NA} {q : Nat} : ∀ k, k < (posU p A q).length → 0 ≤ nth (posU p A q) k := fun k hk => by
  obtain ⟨j, h1, _, _⟩ := posU_nth hk
  omega
/-- A firing, arc by arc. -/
def deltaN (a : NA) (v : Int) (x : Int) : Int := if a.f = v then wrap64 ((if a.t = v then wrap64 (x - a.k) else x) + a.g) else if a.t = v then wrap64 (x - a.k) else x
theorem fire_nth {n : NN} {T : List Int} {v : Int} (hT : T.length = n.arcs.length) {i : Nat} (hi : i < T.length) : nth (fireN n T v) i = deltaN (nthNa n.arcs i) v (nth T i) := by
  have hr1 : ∀ j k, j < k → k < (inArcsN n v).length → nth (inArcsN n v) j < nth (inArcsN n v) k := fun j k h1 h2 => posU_rise h1 h2
  have hr2 : ∀ j k, j < k → k < (outArcsN n v).length → nth (outArcsN n v) j < nth (outArcsN n v) k := fun j k h1 h2 => posU_rise h1 h2
  have a1 : (∃ p, p < (inArcsN n v).length ∧ nth (inArcsN n v) p = (i : Int)) ↔ (nthNa n.arcs i).t = v := by
    refine (posU_at (by omega)).trans ?_
    unfold toB; exact decide_eq_true_iff
  have a2 : (∃ p, p < (outArcsN n v).length ∧ nth (outArcsN n v) p = (i : Int)) ↔ (nthNa n.arcs i).f = v := by
    refine (posU_at (by omega)).trans ?_
    unfold fromB; exact decide_eq_true_iff
  unfold fireN deltaN
  have p1 : ∀ k, k < (inArcsN n v).length → 0 ≤ nth (inArcsN n v) k := posU_pos
  have p2 : ∀ k, k < (outArcsN n v).length → 0 ≤ nth (outArcsN n v) k := posU_pos
  rw [giveU_nth p2 hr2 _ (Nat.le_refl _) i (by rw [takeU_len]; exact hi), takeU_nth p1 hr1 _ (Nat.le_refl _) i hi]
  simp only [a1, a2]
end Go.Proofs.Ytancphohpedigaa
