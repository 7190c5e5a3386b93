/- Texts of one chain, laid one behind the other. -/
import Derived.Test.YtmnbapcbailcbaaGreatPartTopPeriods46
import Derived.Test.YtmnbapcbailcbaaGreatPartTopPeriods34
import Derived.Test.YtmnbapcbailcbaaGreatPartTopPeriods39
import Derived.WalkSmall
namespace Go.Proofs.YtmnbapcbailcbaaGreat
open Go.ChangeShapes Go.WideShapes Go.ChangeAt Go.RowKit
def bkF (x : BK) : List Value := [.int .i64 x.n, .int .i64 x.f, .int .i64 x.a]
def flatB : List BK → List Value
  | [] => []
  | x :: L => bkF x ++ flatB L
def celB (x : BK) (j : Nat) : Value := if j = 0 then .int .i64 x.n else if j = 1 then .int .i64 x.f else .int .i64 x.a
theorem flatB_len : ∀ (L : List BK), (flatB L).length = L.length * 3
  | [] => rfl
  | x :: L => by show (bkF x ++ flatB L).length = _; rw [List.length_append, flatB_len L, List.length_cons]; show 3 + _ = _; omega
theorem flatB_append : ∀ (L M : List BK), flatB (L ++ M) = flatB L ++ flatB M
  | [], _ => rfl
  | x :: L, M => by show bkF x ++ flatB (L ++ M) = bkF x ++ flatB L ++ flatB M; rw [flatB_append L M, List.append_assoc]
theorem flatB_get : ∀ {L : List BK} {k j : Nat}, k < L.length → j < 3 → (flatB L)[k * 3 + j]? = some (celB (nthBk L k) j)
  | [], k, j, hk, _ => absurd hk (Nat.not_lt_zero _)
  | a :: L, 0, j, _, hj => by
    show (bkF a ++ flatB L)[0 * 3 + j]? = _
    rw [Nat.zero_mul, Nat.zero_add, List.getElem?_append_left (by show j < 3; exact hj)]
    match j, hj with
    | 0, _ => rfl
    | 1, _ => rfl
    | 2, _ => rfl
  | a :: L, k + 1, j, hk, hj => by
    show (bkF a ++ flatB L)[(k + 1) * 3 + j]? = _
    rw [List.getElem?_append_right (by show 3 ≤ _; omega)]
    have e : (k + 1) * 3 + j - (bkF a).length = k * 3 + j := by show (k + 1) * 3 + j - 3 = _; omega
    rw [e]
    exact flatB_get (Nat.lt_of_succ_lt_succ hk) hj
theorem AtK.flat {w : World} {ad : Addr} {L : List BK} (h : AtK w (some ad) L) : ∀ j u, (flatB L)[j]? = some u → w.cell? (ad.add j) = some u := by
  intro j u hu
  have hj : j < L.length * 3 := by rw [← flatB_len]; exact (List.getElem?_eq_some_iff.1 hu).1
  rcases h with e | ⟨b, off, e, hc⟩
  · subst e; simp at hj
  · cases e
    have hk : j / 3 < L.length := by omega
    have e1 : j = j / 3 * 3 + j % 3 := by omega
    have hr : j % 3 < 3 := Nat.mod_lt _ (by decide)
    have h1 := flatB_get (L := L) hk hr
    rw [← e1, hu] at h1
    cases h1
    obtain ⟨c0, c1, c2⟩ := hc (j / 3) hk
    have ea : (⟨b, off, none⟩ : Addr).add j = ⟨b, off + j / 3 * 3 + j % 3, none⟩ := by
      have e2 : off + j / 3 * 3 + j % 3 = off + j := by omega
      rw [e2]
      simp [Addr.add]
    rw [ea]
    clear ea e1
    generalize j / 3 = k at *
    generalize j % 3 = r at *
    match r, hr with
    | 0, _ => exact c0
    | 1, _ => exact c1
    | 2, _ => exact c2
/-- A row of steps of a call's own, with room behind it. -/
def CapB (B : Nat) (w : World) (a : Option Addr) (c : Nat) (L : List BK) : Prop := w.ownsRow B 99 3 (.slice a L.length c) L.length (flatB L)
theorem CapB.nil (B : Nat) (w : World) : CapB B w none 0 [] := World.ownsRow_nil _ _ _ _
theorem CapB.at {B : Nat} {w : World} {a : Option Addr} {c : Nat} {L : List BK} (h : CapB B w a c L) : AtK w a L := by
  unfold CapB at h
  rcases h.2 with ⟨hv, hn⟩ | ⟨g, cap, cur, hv, hg, hh, hc, hm, hs, ht⟩
  · exact .inl (List.eq_nil_of_length_eq_zero hn)
  · cases hv
    refine .inr ⟨g, 0, rfl, fun k hk => ?_⟩
    have key : ∀ j, j < 3 → w.cell? ⟨g, k * 3 + j, none⟩ = some (celB (nthBk L k) j) := fun j hj => by
      rw [h.cellAt (k * 3 + j) (by omega), flatB_get hk hj]
    rw [Nat.zero_add]
    exact ⟨key 0 (by decide), key 1 (by decide), key 2 (by decide)⟩
theorem CapB.lt {B : Nat} {w : World} {a : Option Addr} {c : Nat} {L : List BK} (h : CapB B w a c L) : ∀ x, a = some x → B ≤ x.block ∧ x.block < w.heap.size := by
  intro x hx
  rcases h.2 with ⟨hv, hn⟩ | ⟨g, cap, cur, hv, hg, hh, hc, hm, hs, ht⟩
  · simp at hv; rw [hv.1] at hx; cases hx
  · cases hv
    cases hx
    exact ⟨hg, (Array.getElem?_eq_some_iff.1 hh).1⟩
theorem CapB.none {B : Nat} {w : World} {a : Option Addr} {c : Nat} {L : List BK} (h : CapB B w a c L) : a = Option.none → L.length = 0 ∧ c = 0 := by
  intro e
  rcases h.2 with ⟨hv, hn⟩ | ⟨g, cap, cur, hv, hg, hh, hc, hm, hs, ht⟩
  · simp at hv; exact ⟨hn, hv.2.2⟩
  · subst e; cases hv
theorem CapB.keep {B : Nat} {w w' : World} {a : Option Addr} {c : Nat} {L : List BK} (h : CapB B w a c L) (hk : ∀ x, a = some x → w'.heap[x.block]? = w.heap[x.block]?) : CapB B w' a c L := by
  refine ⟨h.1, ?_⟩
  rcases h.2 with h2 | ⟨g, cap, cur, hv, hg, hh, r⟩
  · exact .inl h2
  · refine .inr ⟨g, cap, cur, hv, hg, ?_, r⟩
    cases hv
    rw [hk _ rfl]; exact hh
theorem CapB.later {B : Nat} {w w' : World} {a : Option Addr} {c : Nat} {L : List BK} (h : CapB B w a c L) (hb : Below w.heap.size w w') : CapB B w' a c L := h.keep fun x hx => hb.block _ (h.lt x hx).2
theorem CapB.mono {B B' : Nat} {w : World} {a : Option Addr} {c : Nat} {L : List BK} (h : CapB B w a c L) (hB : B' ≤ B) : CapB B' w a c L := by
  refine ⟨h.1, ?_⟩
  rcases h.2 with h2 | ⟨g, cap, cur, hv, hg, r⟩
  · exact .inl h2
  · exact .inr ⟨g, cap, cur, hv, Nat.le_trans hB hg, r⟩
theorem CapB.room {B : Nat} {w : World} {a : Option Addr} {c : Nat} {L : List BK} (h : CapB B w a c L) : L.length ≤ c ∧ c ≤ maxLen := by
  rcases h.2 with ⟨hv, hn⟩ | ⟨g, cap, cur, hv, hg, hh, hc, hm, r⟩
  · simp at hv; exact ⟨by omega, by omega⟩
  · cases hv; exact ⟨hc, hm⟩
theorem Tryz.infoBk : (Tryz.prog.info? 99).map (fun i => (i.zero, i.size, i.bytes)) = some (some (.agg #[.int .i64 0, .int .i64 0, .int .i64 0]), 3, 24) := by kernel_rfl
end Go.Proofs.YtmnbapcbailcbaaGreat
