/- Nets, plainly: each arc has its start, and what From gave, less what To took. No program is named here. -/
import Derived.Test.YtancphohpedigaaNR
namespace Go.Proofs.Ytancphohpedigaa
open Go.RowKit

def nthRw (I : List (List Int)) (k : Nat) : List Int := I.getD k []
def totN : List (List Int) → Nat
  | [] => 0
  | r :: I => r.length + totN I
theorem drop_rw {I : List (List Int)} {q : Nat} (h : q < I.length) : I.drop q = nthRw I q :: I.drop (q + 1) := by
  rw [List.drop_eq_getElem_cons h]
  unfold nthRw
  rw [List.getD_eq_getElem?_getD, List.getElem?_eq_getElem h]
  rfl
def bumpsN (F : List Int) : List Int → List Int
  | [] => F
  | v :: R => bumpsN (bumpF F v) R
theorem bumps_snoc : ∀ (R F : List Int) (v : Int), bumpsN F (R ++ [v]) = bumpF (bumpsN F R) v
  | [], _, _ => rfl
  | x :: R, F, v => bumps_snoc R (bumpF F x) v
theorem bumps_len : ∀ (R F : List Int), (bumpsN F R).length = F.length
  | [], _ => rfl
  | x :: R, F => by show (bumpsN (bumpF F x) R).length = _; rw [bumps_len R, bump_len]
theorem bumps_in : ∀ (R F : List Int), InR F → InR (bumpsN F R)
  | [], _, h => h
  | x :: R, F, h => bumps_in R (bumpF F x) (bump_in x h)
theorem fires_bumps (n : NN) : ∀ (zs T F : List Int), (firesN n zs T F).2.2 = bumpsN F (zs.take (firesN n zs T F).1) ∧ ∀ j, j < (firesN n zs T F).1 → nodeB n (nth zs j) = true
  | [], T, F => ⟨rfl, fun j hj => absurd hj (Nat.not_lt_zero _)⟩
  | v :: R, T, F => by
    have ec : firesN n (v :: R) T F = if mayN n T v = true then ((firesN n R (fireN n T v) (bumpF F v)).1 + 1, (firesN n R (fireN n T v) (bumpF F v)).2) else (0, T, F) := rfl
    rw [ec]
    cases hm : mayN n T v with
    | false => exact ⟨rfl, fun j hj => absurd hj (Nat.not_lt_zero _)⟩
    | true =>
      obtain ⟨h1, h2⟩ := fires_bumps n R (fireN n T v) (bumpF F v)
      rw [if_pos rfl]
      refine ⟨?_, fun j hj => ?_⟩
      · show _ = bumpsN F ((v :: R).take (_ + 1))
        rw [List.take_succ_cons]
        exact h1
      · cases j with
        | zero => exact may_node hm
        | succ j => exact h2 j (Nat.lt_of_succ_lt_succ hj)
theorem take_snoc {zs : List Int} {j : Nat} (h : j < zs.length) : zs.take (j + 1) = zs.take j ++ [nth zs j] := by
  rw [List.take_add_one, List.getElem?_eq_getElem h]
  unfold nth
  rw [List.getD_eq_getElem?_getD, List.getElem?_eq_getElem h]
  rfl
/-- The equation, and that the numbers are few. -/
structure EqN (n : NN) (m : Int) (T F : List Int) : Prop where
  few : FewN n (256 + 64 * m) T
  lF : F.length = n.nodes.toNat
  fs : ∀ v, v < n.nodes.toNat → 0 ≤ nth F v ∧ nth F v ≤ m
  eq : ∀ i, i < n.arcs.length → nth T i = (nthNa n.arcs i).s + (nthNa n.arcs i).g * nth F (nthNa n.arcs i).f.toNat - (nthNa n.arcs i).k * nth F (nthNa n.arcs i).t.toNat
theorem EqN.more {n : NN} {m m' : Int} {T F : List Int} (h : EqN n m T F) (hm : m ≤ m') : EqN n m' T F := ⟨h.few.more (by omega), h.lF, fun v hv => by have := h.fs v hv; omega, h.eq⟩
theorem bump_nth {F : List Int} {v : Int} {m : Int} (hv : 0 ≤ v) (hm : m ≤ 1000000000000) (hF : ∀ k, k < F.length → 0 ≤ nth F k ∧ nth F k ≤ m) {k : Nat} (hk : k < F.length) : nth (bumpF F v) k = nth F k + if (k : Int) = v then 1 else 0 := by
  unfold bumpF
  by_cases e : (k : Int) = v
  · have e2 : v.toNat = k := by omega
    rw [if_pos e, e2, nth_set_eq hk]
    have := hF k hk
    exact wrap64_id (by omega)
  · rw [if_neg e, nth_set_ne (by omega)]; omega
theorem fire_eq {n : NN} {m : Int} {T F : List Int} {v : Int} (hS : SoundN n) (h : EqN n m T F) (hm : m ≤ 1000000000) (hv : mayN n T v = true) : EqN n (m + 1) (fireN n T v) (bumpF F v) := by
  have hnode : 0 ≤ v ∧ v < n.nodes := of_decide_eq_true (may_node hv)
  have hF : ∀ k, k < F.length → 0 ≤ nth F k ∧ nth F k ≤ m := fun k hk => h.fs k (by rw [← h.lF]; exact hk)
  refine ⟨(fire_few hS h.few (by omega) hv).more (by omega), by rw [bump_len]; exact h.lF, fun k hk => ?_, fun i hi => ?_⟩
  · rw [bump_nth hnode.1 (by omega) hF (by rw [h.lF]; exact hk)]
    have := h.fs k hk
    split <;> omega
  · have ha := hS.arcs i hi
    have hf := ha.f; have ht := ha.t
    rw [fire_plain hS h.few (by omega) hv hi, h.eq i hi, bump_nth hnode.1 (by omega) hF (by rw [h.lF]; omega), bump_nth hnode.1 (by omega) hF (by rw [h.lF]; omega)]
    have e1 : (((nthNa n.arcs i).f.toNat : Nat) : Int) = (nthNa n.arcs i).f := by omega
    have e2 : (((nthNa n.arcs i).t.toNat : Nat) : Int) = (nthNa n.arcs i).t := by omega
    rw [e1, e2, Int.mul_add, Int.mul_add]
    generalize (nthNa n.arcs i).g * nth F (nthNa n.arcs i).f.toNat = p
    generalize (nthNa n.arcs i).k * nth F (nthNa n.arcs i).t.toNat = q
    by_cases c1 : (nthNa n.arcs i).t = v <;> by_cases c2 : (nthNa n.arcs i).f = v <;> simp [c1, c2] <;> omega
theorem fires_eq {n : NN} (hS : SoundN n) : ∀ (zs T F : List Int) (m : Int), EqN n m T F → m + (zs.length : Int) ≤ 1000000000 → EqN n (m + (zs.length : Int)) (firesN n zs T F).2.1 (firesN n zs T F).2.2
  | [], T, F, m, h, _ => h.more (by simp)
  | v :: R, T, F, m, h, hb => by
    rw [List.length_cons] at hb ⊢
    unfold firesN
    cases hm : mayN n T v with
    | false => exact h.more (by omega)
    | true =>
      have h1 := fires_eq hS R (fireN n T v) (bumpF F v) (m + 1) (fire_eq hS h (by omega) hm) (by omega)
      exact h1.more (by omega)
theorem start_eq {n : NN} (hS : SoundN n) {T : List Int} (hT : T = n.arcs.map NA.s) : EqN n 0 T (List.replicate n.nodes.toNat 0) := by
  have z : ∀ v, nth (List.replicate n.nodes.toNat (0 : Int)) v = 0 := fun v => by
    unfold nth
    rw [List.getD_eq_getElem?_getD]
    by_cases hk : v < n.nodes.toNat
    · rw [List.getElem?_replicate, if_pos hk]; rfl
    · rw [List.getElem?_replicate, if_neg hk]; rfl
  refine ⟨(start_few hS hT).more (by omega), List.length_replicate, fun v _ => by rw [z]; omega, fun i hi => ?_⟩
  subst hT
  have e : nth (n.arcs.map NA.s) i = (nthNa n.arcs i).s := by
    unfold nth nthNa
    rw [List.getD_eq_getElem?_getD, List.getD_eq_getElem?_getD, List.getElem?_map, List.getElem?_eq_getElem hi]
    rfl
  rw [e, z, z, Int.mul_zero, Int.mul_zero]
  omega
end Go.Proofs.Ytancphohpedigaa
