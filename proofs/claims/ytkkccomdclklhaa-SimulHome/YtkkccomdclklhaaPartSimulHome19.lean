/- Texts of one chain, laid one behind the other. -/
import Derived.Test.YtkkccomdclklhaaPartSimulHome10
import Derived.Test.YtkkccomdclklhaaPartSimulHome18
import Derived.WalkSmall
import Derived.Deep.LoopGhost
import Derived.Deep.DeepCutAuto
namespace Go.Proofs.Ytkkccomdclklhaa
open Go.ChangeShapes Go.WideShapes Go.ChangeAt Go.RowKit
def stepV (x : Nat × Bool) : List Value := [.int .i64 (x.1 : Int), .bool x.2]
def flatS : List (Nat × Bool) → List Value
  | [] => []
  | x :: L => stepV x ++ flatS L
def nthS (L : List (Nat × Bool)) (k : Nat) : Nat × Bool := L.getD k (0, false)
def celS (x : Nat × Bool) (j : Nat) : Value := if j = 0 then .int .i64 (x.1 : Int) else .bool x.2
theorem flatS_len : ∀ (L : List (Nat × Bool)), (flatS L).length = L.length * 2
  | [] => rfl
  | x :: L => by show (stepV x ++ flatS L).length = _; rw [List.length_append, flatS_len L, List.length_cons]; show 2 + _ = _; omega
theorem flatS_get : ∀ {L : List (Nat × Bool)} {k j : Nat}, k < L.length → j < 2 → (flatS L)[k * 2 + j]? = some (celS (nthS L k) j)
  | [], k, j, hk, _ => absurd hk (Nat.not_lt_zero _)
  | a :: L, 0, j, _, hj => by
    show (stepV a ++ flatS L)[0 * 2 + j]? = _
    rw [Nat.zero_mul, Nat.zero_add, List.getElem?_append_left (by show j < 2; exact hj)]
    match j, hj with
    | 0, _ => rfl
    | 1, _ => rfl
  | a :: L, k + 1, j, hk, hj => by
    show (stepV a ++ flatS L)[(k + 1) * 2 + j]? = _
    rw [List.getElem?_append_right (by show 2 ≤ _; omega)]
    have e : (k + 1) * 2 + j - (stepV a).length = k * 2 + j := by show (k + 1) * 2 + j - 2 = _; omega
    rw [e]
    exact flatS_get (Nat.lt_of_succ_lt_succ hk) hj
/-- Steps as they lie. -/
def AtS (w : World) (a : Option Addr) (L : List (Nat × Bool)) : Prop := L = [] ∨ ∃ b off, a = some ⟨b, off, none⟩ ∧ ∀ k, k < L.length → w.cell? ⟨b, off + k * 2, none⟩ = some (.int .i64 ((nthS L k).1 : Int)) ∧ w.cell? ⟨b, off + k * 2 + 1, none⟩ = some (.bool (nthS L k).2)
theorem AtS.below {w w' : World} {a : Option Addr} {L : List (Nat × Bool)} (h : AtS w a L) (hb : Below w.heap.size w w') : AtS w' a L := by
  rcases h with h | ⟨b, off, e, hc⟩
  · exact .inl h
  · exact .inr ⟨b, off, e, fun k hk => ⟨cellN_later hb (hc k hk).1, cellN_later hb (hc k hk).2⟩⟩
theorem AtS.flat {w : World} {ad : Addr} {L : List (Nat × Bool)} (h : AtS w (some ad) L) : ∀ j u, (flatS L)[j]? = some u → w.cell? (ad.add j) = some u := by
  intro j u hu
  have hj : j < L.length * 2 := by rw [← flatS_len]; exact (List.getElem?_eq_some_iff.1 hu).1
  rcases h with e | ⟨b, off, e, hc⟩
  · subst e; simp at hj
  · cases e
    have hk : j / 2 < L.length := by omega
    have e1 : j = j / 2 * 2 + j % 2 := by omega
    have hr : j % 2 < 2 := Nat.mod_lt _ (by decide)
    have h1 := flatS_get (L := L) hk hr
    rw [← e1, hu] at h1
    cases h1
    obtain ⟨c0, c1⟩ := hc (j / 2) hk
    have ea : (⟨b, off, none⟩ : Addr).add j = ⟨b, off + j / 2 * 2 + j % 2, none⟩ := by
      have e2 : off + j / 2 * 2 + j % 2 = off + j := by omega
      rw [e2]
      simp [Addr.add]
    rw [ea]
    clear ea e1
    generalize j / 2 = k at *
    generalize j % 2 = r at *
    match r, hr with
    | 0, _ => exact c0
    | 1, _ => exact c1
/-- All below B but one block stays. -/
structure KpB (B K : Nat) (w w' : World) : Prop where
  os : w'.os = w.os
  tape : w'.tape = w.tape
  output : w'.output = w.output
  size : w.heap.size ≤ w'.heap.size
  block : ∀ k, k < B → k ≠ K → w'.heap[k]? = w.heap[k]?
theorem KpB.refl (B K : Nat) (w : World) : KpB B K w w := ⟨rfl, rfl, rfl, Nat.le_refl _, fun _ _ _ => rfl⟩
theorem KpB.trans {B K : Nat} {a b c : World} (h : KpB B K a b) (k : KpB B K b c) : KpB B K a c := ⟨k.os.trans h.os, k.tape.trans h.tape, k.output.trans h.output, Nat.le_trans h.size k.size, fun i hi hn => (k.block i hi hn).trans (h.block i hi hn)⟩
theorem KpB.of_below {B K : Nat} {w w' : World} (h : Below B w w') : KpB B K w w' := ⟨h.os, h.tape, h.output, h.size, fun k hk _ => h.block k hk⟩
/-- A new box: as it was made, then as it was filled. -/
def BoxF (B : Nat) (T : TypeId) (z0 vals : Array Value) (done : Bool) (u : World) (z : Value) : Prop := ∃ xb, z = .pointer (some ⟨xb, 0, none⟩) ∧ B ≤ xb ∧ BlkA T xb u (if done then vals else z0)
theorem BoxF.later {B : Nat} {T : TypeId} {z0 vals : Array Value} {done : Bool} {u u' : World} {z : Value} (h : BoxF B T z0 vals done u z) (hb : Below u.heap.size u u') : BoxF B T z0 vals done u' z := by
  obtain ⟨xb, h1, h2, h3⟩ := h
  exact ⟨xb, h1, h2, h3.below hb⟩
def ElS (j : Nat) (b : Bool) (u : World) (z : Value) : Prop := ∃ g, z = .slice (some ⟨g, 0, none⟩) 1 1 ∧ u.cell? ⟨g, 0, none⟩ = some (.int .i64 (j : Int)) ∧ u.cell? ⟨g, 1, none⟩ = some (.bool b)
theorem ElS.later {j : Nat} {b : Bool} {u u' : World} {z : Value} (h : ElS j b u z) (hb : Below u.heap.size u u') : ElS j b u' z := by
  obtain ⟨g, h1, h2, h3⟩ := h
  exact ⟨g, h1, cellN_later hb h2, cellN_later hb h3⟩
def FoV (T H : List Int) (cd : Int) (u : World) (z : Value) : Prop := ∃ d1 c1 d2 c2, z = .tuple #[.agg #[.slice d1 T.length c1, .slice d2 H.length c2], .int .i64 cd] ∧ CapR 0 u d1 c1 T
def FaV (T H : List Int) (u : World) (z : Value) : Prop := ∃ d1 c1 d2 c2, z = .agg #[.slice d1 T.length c1, .slice d2 H.length c2] ∧ CapR 0 u d1 c1 T
theorem FoV.later {T H : List Int} {cd : Int} {u u' : World} {z : Value} (h : FoV T H cd u z) (hb : Below u.heap.size u u') : FoV T H cd u' z := by
  obtain ⟨d1, c1, d2, c2, h1, h2⟩ := h
  exact ⟨d1, c1, d2, c2, h1, h2.later hb⟩
theorem FaV.later {T H : List Int} {u u' : World} {z : Value} (h : FaV T H u z) (hb : Below u.heap.size u u') : FaV T H u' z := by
  obtain ⟨d1, c1, d2, c2, h1, h2⟩ := h
  exact ⟨d1, c1, d2, c2, h1, h2.later hb⟩
theorem AtN.take {w : World} {a : Option Addr} {A : List NA} (h : AtN w a A) (k : Nat) : AtN w a (A.take k) := by
  rcases h with e | ⟨b, off, e, hc⟩
  · subst e; exact .inl (by simp)
  · refine .inr ⟨b, off, e, fun i hi => ?_⟩
    rw [List.length_take] at hi
    rw [nthNa_take (by omega)]
    exact hc i (by omega)
end Go.Proofs.Ytkkccomdclklhaa
