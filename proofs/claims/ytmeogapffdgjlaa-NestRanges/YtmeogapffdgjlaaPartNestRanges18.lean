/- Texts of one chain, laid one behind the other. -/
import Derived.Test.YtmeogapffdgjlaaPartNestRanges10
import Derived.Handy
import Derived.WalkSpells
import Derived.Test.YtmeogapffdgjlaaPartNestRanges3
namespace Go.Proofs.Ytmeogapffdgjlaa
open Go.ChangeShapes Go.WideShapes Go.ChangeAt Go.RowKit
def celN (a : NA) (j : Nat) : Value := .int .i64 (match j with | 0 => a.f | 1 => a.t | 2 => a.g | 3 => a.k | _ => a.s)
def fiveN (a : NA) : List Value := [.int .i64 a.f, .int .i64 a.t, .int .i64 a.g, .int .i64 a.k, .int .i64 a.s]
def flatN : List NA → List Value
  | [] => []
  | a :: L => fiveN a ++ flatN L
theorem flatN_len : ∀ L : List NA, (flatN L).length = L.length * 5
  | [] => rfl
  | a :: L => by
    show (fiveN a ++ flatN L).length = _
    rw [List.length_append, flatN_len L, List.length_cons]
    show 5 + L.length * 5 = _
    omega
theorem fiveN_get (a : NA) {j : Nat} (hj : j < 5) : (fiveN a)[j]? = some (celN a j) := by
  match j, hj with
  | 0, _ => rfl
  | 1, _ => rfl
  | 2, _ => rfl
  | 3, _ => rfl
  | 4, _ => rfl
theorem flatN_get : ∀ {L : List NA} {k j : Nat}, k < L.length → j < 5 → (flatN L)[k * 5 + j]? = some (celN (nthNa L k) j)
  | [], k, j, hk, _ => absurd hk (Nat.not_lt_zero _)
  | a :: L, 0, j, _, hj => by
    show (fiveN a ++ flatN L)[0 * 5 + j]? = _
    rw [Nat.zero_mul, Nat.zero_add, List.getElem?_append_left (by show j < 5; exact hj)]
    exact fiveN_get a hj
  | a :: L, k + 1, j, hk, hj => by
    show (fiveN a ++ flatN L)[(k + 1) * 5 + j]? = _
    rw [List.getElem?_append_right (by show 5 ≤ _; omega)]
    have e : (k + 1) * 5 + j - (fiveN a).length = k * 5 + j := by show (k + 1) * 5 + j - 5 = _; omega
    rw [e]
    exact flatN_get (Nat.lt_of_succ_lt_succ hk) hj
theorem AtN.flat {w : World} {ad : Addr} {L : List NA} (h : AtN w (some ad) L) : ∀ j u, (flatN L)[j]? = some u → w.cell? (ad.add j) = some u := by
  intro j u hu
  have hj : j < L.length * 5 := by rw [← flatN_len]; exact (List.getElem?_eq_some_iff.1 hu).1
  rcases h with e | ⟨b, off, e, hc⟩
  · subst e; simp at hj
  · cases e
    have hk : j / 5 < L.length := by omega
    have e1 : j = j / 5 * 5 + j % 5 := by omega
    have hr : j % 5 < 5 := Nat.mod_lt _ (by decide)
    have h1 := flatN_get (L := L) hk hr
    rw [← e1, hu] at h1
    cases h1
    obtain ⟨c0, c1, c2, c3, c4⟩ := hc (j / 5) hk
    have ea : (⟨b, off, none⟩ : Addr).add j = ⟨b, off + j / 5 * 5 + j % 5, none⟩ := by
      have e2 : off + j / 5 * 5 + j % 5 = off + j := by omega
      rw [e2]
      simp [Addr.add]
    rw [ea]
    clear ea e1
    generalize j / 5 = k at *
    generalize j % 5 = r at *
    match r, hr with
    | 0, _ => exact c0
    | 1, _ => exact c1
    | 2, _ => exact c2
    | 3, _ => exact c3
    | 4, _ => exact c4
/-- A table of rows, as it lies: H the table's block, D the rows'. -/
structure TabN (B : Nat) (w : World) (H N : Nat) (D : Nat → Option Addr) (E : Nat → Nat) (Y : Nat → List Int) : Prop where
  own : ∀ j, j < N → CapR B w (D j) (E j) (Y j)
  long : w.rowIs H 26 N (fun j => .slice (D j) (Y j).length (E j))
  dd : ∀ j k x y, j < N → k < N → j ≠ k → D j = some x → D k = some y → x.block ≠ y.block
  dt : ∀ j x, j < N → D j = some x → x.block ≠ H
  low : B ≤ H
/-- Its blocks. -/
def ofT (N H : Nat) (D : Nat → Option Addr) (k : Nat) : Prop := k = H ∨ ∃ j x, j < N ∧ D j = some x ∧ x.block = k
theorem TabN.lt {B : Nat} {w : World} {H N : Nat} {D : Nat → Option Addr} {E : Nat → Nat} {Y : Nat → List Int} (h : TabN B w H N D E Y) {k : Nat} (hk : ofT N H D k) : B ≤ k ∧ k < w.heap.size := by
  rcases hk with rfl | ⟨j, x, hj, hx, rfl⟩
  · exact ⟨h.low, h.long.lt⟩
  · exact (h.own j hj).lt x hx
theorem TabN.keep {B : Nat} {w w' : World} {H N : Nat} {D : Nat → Option Addr} {E : Nat → Nat} {Y : Nat → List Int} (h : TabN B w H N D E Y) (hk : ∀ k, ofT N H D k → w'.heap[k]? = w.heap[k]?) : TabN B w' H N D E Y :=
  ⟨fun j hj => (h.own j hj).keep fun x hx => hk _ (.inr ⟨j, x, hj, hx, rfl⟩), h.long.of_block (hk H (.inl rfl)), h.dd, h.dt, h.low⟩
theorem TabN.below {B : Nat} {w w' : World} {H N : Nat} {D : Nat → Option Addr} {E : Nat → Nat} {Y : Nat → List Int} (h : TabN B w H N D E Y) (hb : Below w.heap.size w w') : TabN B w' H N D E Y := h.keep fun k hk => hb.block k (h.lt hk).2
/-- A row has grown: which blocks may have changed. -/
theorem TabN.put {B : Nat} {wr w2 : World} {H N i c : Nat} {D : Nat → Option Addr} {E : Nat → Nat} {Y : Nat → List Int} {d : Option Addr} {L : List Int} (h : TabN B wr H N D E Y) (hi : i < N) (hd : CapR B w2 d c L) (hk : ∀ k, k < wr.heap.size → (∀ y, D i = some y → y.block ≠ k) → w2.heap[k]? = wr.heap[k]?) (hn : ∀ z, d = some z → D i = some z ∨ wr.heap.size ≤ z.block) :
    TabN B (w2.setCell ⟨H, i, none⟩ (.slice d L.length c)) H N (upd D i d) (upd E i c) (upd Y i L) := by
  have hH := h.long.lt
  have dH : ∀ z, d = some z → z.block ≠ H := fun z hz => by
    rcases hn z hz with h1 | h1
    · exact h.dt i z hi h1
    · omega
  have far : ∀ j x z, j < N → j ≠ i → D j = some x → d = some z → x.block ≠ z.block := fun j x z hj hji hx hz => by
    rcases hn z hz with h1 | h1
    · exact h.dd j i x z hj hi hji hx h1
    · have := ((h.own j hj).lt x hx).2; omega
  refine ⟨fun j hj => ?_, ?_, fun j k x y hj hk' hjk hx hy => ?_, fun j x hj hx => ?_, h.low⟩
  · by_cases e : j = i
    · subst e
      rw [upd_eq, upd_eq, upd_eq]
      exact hd.setOther (ad := ⟨H, j, none⟩) dH _
    · rw [upd_ne e, upd_ne e, upd_ne e]
      refine ((h.own j hj).keep fun x hx => hk _ ((h.own j hj).lt x hx).2 fun y hy => (h.dd j i x y hj hi e hx hy).symm).setOther (ad := ⟨H, i, none⟩) (fun x hx => h.dt j x hj hx) _
  · refine ((h.long.of_block (hk H hH fun y hy => h.dt i y hi hy)).set i _).congr fun j hj => ?_
    by_cases e : j = i
    · subst e; rw [if_pos rfl, upd_eq, upd_eq, upd_eq]
    · rw [if_neg e, upd_ne e, upd_ne e, upd_ne e]
  · by_cases e : j = i
    · subst e
      rw [upd_eq] at hx
      rw [upd_ne (Ne.symm hjk)] at hy
      exact (far k y x hk' (Ne.symm hjk) hy hx).symm
    · rw [upd_ne e] at hx
      by_cases e2 : k = i
      · subst e2
        rw [upd_eq] at hy
        exact far j x y hj e hx hy
      · rw [upd_ne e2] at hy
        exact h.dd j k x y hj hk' hjk hx hy
  · by_cases e : j = i
    · subst e; rw [upd_eq] at hx; exact dH x hx
    · rw [upd_ne e] at hx; exact h.dt j x hj hx
end Go.Proofs.Ytmeogapffdgjlaa
