/- Texts of one chain, laid one behind the other. -/
import Derived.Test.YtafkmpfoojofhaaPartStuckOrder9
import Derived.Handy
import Derived.WalkSpells
import Derived.Test.YtafkmpfoojofhaaPartStuckOrder3
namespace Go.Proofs.Ytafkmpfoojofhaa
open Go.ChangeShapes Go.WideShapes Go.ChangeAt Go.RowKit
def celN (a : NA) (j : Nat) : Value := .int .i64 (match j with | 0 => a.f | 1 => a.t | 2 => a.g | 3 => a.k | _ => a.s)
def fiveN (a : NA) : List Value := [.int .i64 a.f, .int .i64 a.t, .int .i64 a.g, .int .i64 a.k, .int .i64 a.s]
def flatN : List NA → List Value
  | [] => []
  | a :: L => fiveN a ++ flatN L
theorem flatN_len : ∀ L : List NA, (flatN L).length = L.length * 5
  | [] => rfl
  | a :: L => by
    show (fiveN a ++ flatN L).length = _
    rw [List.length_append, flatN_len L, List.length_cons]
    show 5 + L.length * 5 = _
    omega
theorem fiveN_get (a : NA) {j : Nat} (hj : j < 5) : (fiveN a)[j]? = some (celN a j) := by
  match j, hj with
  | 0, _ => rfl
  | 1, _ => rfl
  | 2, _ => rfl
  | 3, _ => rfl
  | 4, _ => rfl
theorem flatN_get : ∀ {L : List NA} {k j : Nat}, k < L.length → j < 5 → (flatN L)[k * 5 + j]? = some (celN (nthNa L k) j)
  | [], k, j, hk, _ => absurd hk (Nat.not_lt_zero _)
  | a :: L, 0, j, _, hj => by
    show (fiveN a ++ flatN L)[0 * 5 + j]? = _
    rw [Nat.zero_mul, Nat.zero_add, List.getElem?_append_left (by show j < 5; exact hj)]
    exact fiveN_get a hj
  | a :: L, k + 1, j, hk, hj => by
    show (fiveN a ++ flatN L)[(k + 1) * 5 + j]? = _
    rw [List.getElem?_append_right (by show 5 ≤ _; omega)]
    have e : (k + 1) * 5 + j - (fiveN a).length = k * 5 + j := by show (k + 1) * 5 + j - 5 = _; omega
    rw [e]
    exact flatN_get (Nat.lt_of_succ_lt_succ hk) hj
theorem AtN.flat {w : World} {ad : Addr} {L : List NA} (h : AtN w (some ad) L) : ∀ j u, (flatN L)[j]? = some u → w.cell? (ad.add j) = some u := by
  intro j u hu
  have hj : j < L.length * 5 := by rw [← flatN_len]; exact (List.getElem?_eq_some_iff.1 hu).1
  rcases h with e | ⟨b, off, e, hc⟩
  · subst e; simp at hj
  · cases e
    have hk : j / 5 < L.length := by omega
    have e1 : j = j / 5 * 5 + j % 5 := by omega
    have hr : j % 5 < 5 := Nat.mod_lt _ (by decide)
    have h1 := flatN_get (L := L) hk hr
    rw [← e1, hu] at h1
    cases h1
    obtain ⟨c0, c1, c2, c3, c4⟩ := hc (j / 5) hk
    have ea : (⟨b, off, none⟩ : Addr).add j = ⟨b, off + j / 5 * 5 + j % 5, none⟩ := by
      have e2 : off + j / 5 * 5 + j % 5 = off + j := by omega
      rw [e2]
      simp [Addr.add]
    rw [ea]
    clear ea e1
    generalize j / 5 = k at *
    generalize j % 5 = r at *
    match r, hr with
    | 0, _ => exact c0
    | 1, _ => exact c1
    | 2, _ => exact c2
    | 3, _ => exact c3
    | 4, _ => exact c4
end Go.Proofs.Ytafkmpfoojofhaa
