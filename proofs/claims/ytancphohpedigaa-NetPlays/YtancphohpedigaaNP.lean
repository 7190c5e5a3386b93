/- Nets, plainly: the document's count of an arc, and its Short. No program is named here. -/
import Derived.Test.YtancphohpedigaaNR
namespace Go.Proofs.Ytancphohpedigaa
open Go.RowKit

/-- What an arc has, as the document reckons it. -/
def hasN (n : NN) (F : List Int) (i : Nat) : Int := wrap64 ((nthNa n.arcs i).s + (nthNa n.arcs i).g * nth F (nthNa n.arcs i).f.toNat - (nthNa n.arcs i).k * nth F (nthNa n.arcs i).t.toNat)
theorem wrap_nest (s a b : Int) : wrap64 (wrap64 (s + wrap64 a) - wrap64 b) = wrap64 (s + a - b) := by unfold wrap64; omega
theorem wrap_more (x u : Int) : wrap64 (x + 18446744073709551616 * u) = wrap64 x := by unfold wrap64; omega
theorem wrap_is (x : Int) : ∃ z, wrap64 x = x + 18446744073709551616 * z := ⟨-((x + 9223372036854775808) / 18446744073709551616), by unfold wrap64; omega⟩
/-- The tokens are what the document reckons. -/
structure InvN (n : NN) (T F : List Int) : Prop where
  lT : T.length = n.arcs.length
  lF : F.length = n.nodes.toNat
  eq : ∀ i, i < n.arcs.length → nth T i = hasN n F i
theorem mul_wrap (g x : Int) : ∃ u, g * wrap64 (x + 1) = g * x + g + 18446744073709551616 * u := by
  obtain ⟨z, hz⟩ := wrap_is (x + 1)
  refine ⟨g * z, ?_⟩
  rw [hz, Int.mul_add, Int.mul_add, Int.mul_one, ← Int.mul_assoc, Int.mul_comm g 18446744073709551616, Int.mul_assoc]
theorem bump_at {F : List Int} {v : Int} {k : Nat} (hv : 0 ≤ v) (hk : k < F.length) : nth (bumpF F v) k = if (k : Int) = v then wrap64 (nth F k + 1) else nth F k := by
  unfold bumpF
  by_cases e : (k : Int) = v
  · have e2 : v.toNat = k := by omega
    rw [if_pos e, e2, nth_set_eq hk]
  · rw [if_neg e, nth_set_ne (by omega)]
theorem fire_inv {n : NN} {T F : List Int} {v : Int} (hS : SoundN n) (h : InvN n T F) (hv : nodeB n v = true) : InvN n (fireN n T v) (bumpF F v) := by
  have hnode : 0 ≤ v ∧ v < n.nodes := of_decide_eq_true hv
  refine ⟨by rw [fire_len]; exact h.lT, by rw [bump_len]; exact h.lF, fun i hi => ?_⟩
  have ha := hS.arcs i hi
  have hf := ha.f; have ht := ha.t
  rw [fire_nth h.lT (by rw [h.lT]; exact hi), h.eq i hi]
  unfold deltaN hasN
  rw [bump_at hnode.1 (by rw [h.lF]; omega), bump_at hnode.1 (by rw [h.lF]; omega)]
  have e1 : (((nthNa n.arcs i).f.toNat : Nat) : Int) = (nthNa n.arcs i).f := by omega
  have e2 : (((nthNa n.arcs i).t.toNat : Nat) : Int) = (nthNa n.arcs i).t := by omega
  rw [e1, e2]
  obtain ⟨u1, h1⟩ := mul_wrap (nthNa n.arcs i).g (nth F (nthNa n.arcs i).f.toNat)
  obtain ⟨u2, h2⟩ := mul_wrap (nthNa n.arcs i).k (nth F (nthNa n.arcs i).t.toNat)
  by_cases c2 : (nthNa n.arcs i).f = v
  · rw [if_pos c2, if_pos c2, h1]
    by_cases c1 : (nthNa n.arcs i).t = v
    · rw [if_pos c1, if_pos c1, h2]
      generalize (nthNa n.arcs i).g * nth F (nthNa n.arcs i).f.toNat = p
      generalize (nthNa n.arcs i).k * nth F (nthNa n.arcs i).t.toNat = q
      unfold wrap64; omega
    · rw [if_neg c1, if_neg c1]
      generalize (nthNa n.arcs i).g * nth F (nthNa n.arcs i).f.toNat = p
      generalize (nthNa n.arcs i).k * nth F (nthNa n.arcs i).t.toNat = q
      unfold wrap64; omega
  · rw [if_neg c2, if_neg c2]
    by_cases c1 : (nthNa n.arcs i).t = v
    · rw [if_pos c1, if_pos c1, h2]
      generalize (nthNa n.arcs i).g * nth F (nthNa n.arcs i).f.toNat = p
      generalize (nthNa n.arcs i).k * nth F (nthNa n.arcs i).t.toNat = q
      unfold wrap64; omega
    · rw [if_neg c1, if_neg c1]
theorem fires_inv {n : NN} (hS : SoundN n) : ∀ (zs T F : List Int), InvN n T F → InvN n (firesN n zs T F).2.1 (firesN n zs T F).2.2
  | [], _, _, h => h
  | v :: R, T, F, h => by
    unfold firesN
    cases hm : mayN n T v with
    | false => exact h
    | true => exact fires_inv hS R _ _ (fire_inv hS h (may_node hm))
theorem start_inv {n : NN} (hS : SoundN n) {T : List Int} (hT : T = n.arcs.map NA.s) : InvN n T (List.replicate n.nodes.toNat 0) := by
  have z : ∀ v, nth (List.replicate n.nodes.toNat (0 : Int)) v = 0 := fun v => by
    unfold nth
    rw [List.getD_eq_getElem?_getD]
    by_cases hk : v < n.nodes.toNat
    · rw [List.getElem?_replicate, if_pos hk]; rfl
    · rw [List.getElem?_replicate, if_neg hk]; rfl
  subst hT
  refine ⟨List.length_map _, List.length_replicate, fun i hi => ?_⟩
  have e : nth (n.arcs.map NA.s) i = (nthNa n.arcs i).s := by
    unfold nth nthNa
    rw [List.getD_eq_getElem?_getD, List.getD_eq_getElem?_getD, List.getElem?_map, List.getElem?_eq_getElem hi]
    rfl
  unfold hasN
  rw [e, z, z, Int.mul_zero, Int.mul_zero]
  have := (hS.arcs i hi).s
  exact (wrap64_id (by omega)).symm.trans (by rw [Int.add_zero, Int.sub_zero])
/-- The first arc to a node that lacks is what Short answers. -/
theorem short_first {n : NN} {T : List Int} {v : Int} {i : Nat} (hS : SoundN n) (hi : i < n.arcs.length) (ht : (nthNa n.arcs i).t = v) (hl : nth T i < (nthNa n.arcs i).k) (hb : ∀ j, j < i → (nthNa n.arcs j).t = v → ¬ nth T j < (nthNa n.arcs j).k) : shortN n T v = (i : Int) := by
  have hn : nodeB n v = true := decide_eq_true (by rw [← ht]; exact (hS.arcs i hi).t)
  unfold shortN
  rw [if_pos hn]
  obtain ⟨p, hp, e⟩ := posU_has (p := toB v) (A := n.arcs) (q := n.arcs.length) hi (by unfold toB; exact decide_eq_true ht)
  have e' : nth (inArcsN n v) p = (i : Int) := e
  rw [← e']
  refine short_here hp (fun j hj => ?_) ?_
  · obtain ⟨k, h1, h2, h3⟩ := posU_nth (p := toB v) (A := n.arcs) (q := n.arcs.length) (k := j) (by omega)
    have h4 := posU_rise (p := toB v) (A := n.arcs) (q := n.arcs.length) hj hp
    have e1 : nth (inArcsN n v) j = (k : Int) := h1
    rw [e1]
    unfold lackB
    rw [Int.toNat_natCast]
    exact decide_eq_false (hb k (by rw [h1, e] at h4; omega) (of_decide_eq_true h3))
  · rw [e']
    unfold lackB
    rw [Int.toNat_natCast]
    exact decide_eq_true hl
theorem short_never {n : NN} {T : List Int} {v : Int} (hb : ∀ j, j < n.arcs.length → (nthNa n.arcs j).t = v → ¬ nth T j < (nthNa n.arcs j).k) : shortN n T v = -1 := by
  unfold shortN
  split
  · refine short_none fun j hj => ?_
    obtain ⟨k, h1, h2, h3⟩ := posU_nth (p := toB v) (A := n.arcs) (q := n.arcs.length) hj
    have e1 : nth (inArcsN n v) j = (k : Int) := h1
    rw [e1]
    unfold lackB
    rw [Int.toNat_natCast]
    exact decide_eq_false (hb k h2 (of_decide_eq_true h3))
  · rfl
theorem short_cases (n : NN) (T : List Int) (v : Int) : shortN n T v = -1 ∨ 0 ≤ shortN n T v := by
  unfold shortN
  split
  · have key : ∀ R : List Int, (∀ k, k < R.length → 0 ≤ nth R k) → shortL n.arcs T R = -1 ∨ 0 ≤ shortL n.arcs T R := by
      intro R
      induction R with
      | nil => exact fun _ => .inl rfl
      | cons x R ih =>
        intro h
        unfold shortL
        split
        · exact .inr (h 0 (Nat.succ_pos _))
        · exact ih fun k hk => h (k + 1) (Nat.succ_lt_succ hk)
    exact key _ posU_pos
  · exact .inl rfl
end Go.Proofs.Ytancphohpedigaa
