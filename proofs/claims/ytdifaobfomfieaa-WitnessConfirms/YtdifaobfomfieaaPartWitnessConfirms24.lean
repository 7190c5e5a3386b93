/- Texts of one chain, laid one behind the other. -/
import Derived.Test.YtdifaobfomfieaaPartWitnessConfirms9
import Derived.Test.YtdifaobfomfieaaPartWitnessConfirms22
namespace Go.Proofs.Ytdifaobfomfieaa
open Go.RowKit
def nthT (L : List (Int × Bool)) (k : Nat) : Int × Bool := L.getD k (0, false)
/-- A step's arc, turned about if the step goes back. -/
def tkW (A : List NA) (x : Int × Bool) : NA := if x.2 = true then ⟨(nthNa A x.1.toNat).t, (nthNa A x.1.toNat).f, (nthNa A x.1.toNat).k, (nthNa A x.1.toNat).g, (nthNa A x.1.toNat).s⟩ else nthNa A x.1.toNat
def stW (A : List NA) (x : Int × Bool) : Int := (tkW A x).f
def enW (A : List NA) (x : Int × Bool) : Int := (tkW A x).t
def inW (A : List NA) (x : Int × Bool) : Bool := decide (0 ≤ x.1) && decide (x.1 < (A.length : Int))
def nmW (A : List NA) (L : List (Int × Bool)) : Bool := (List.range L.length).all fun i => inW A (nthT L i)
def preW (n i : Nat) : Nat := if i = 0 then n - 1 else i - 1
def lkW (A : List NA) (L : List (Int × Bool)) (i : Nat) : Bool := decide (stW A (nthT L i) = enW A (nthT L (preW L.length i)))
def hmW (A : List NA) (L : List (Int × Bool)) : Bool := (List.range L.length).all (lkW A L)
def paW (A : List NA) (x y : Int × Bool) : Bool := decide (x.1 = y.1) || decide (stW A x = stW A y)
def frW (A : List NA) (L : List (Int × Bool)) (i : Nat) : Bool := (List.range i).all fun j => !paW A (nthT L i) (nthT L j)
def twW (A : List NA) (L : List (Int × Bool)) : Bool := !((List.range L.length).all (frW A L))
def cycW (A : List NA) (L : List (Int × Bool)) : Bool := decide (0 < L.length) && nmW A L && hmW A L && !twW A L
def gvW (A : List NA) (L : List (Int × Bool)) : List Int := L.map fun x => (tkW A x).g
def kpW (A : List NA) (L : List (Int × Bool)) : List Int := L.map fun x => (tkW A x).k
def alW (A : List NA) (L : List (Int × Bool)) : Bool := decide (prodN' (nats (gvW A L)) = prodN' (nats (kpW A L)))
def proW (n : NN) (L : List (Int × Bool)) : Int := if checkN n = 0 then (if 96 < L.length then 2 else if nmW n.arcs L = true then 0 else 120) else checkN n
def conW (n : NN) (L : List (Int × Bool)) : Int := if checkN n = 0 then (if cycW n.arcs L = true then (if alW n.arcs L = true then 121 else 0) else 120) else checkN n
theorem all_range {n : Nat} {p : Nat → Bool} : (List.range n).all p = true ↔ ∀ i, i < n → p i = true := by simp [List.all_eq_true, List.mem_range]
theorem all_miss {n i : Nat} {p : Nat → Bool} (hi : i < n) (h : p i = false) : (List.range n).all p = false := by
  rw [← Bool.not_eq_true, all_range]
  exact fun x => by rw [x i hi] at h; cases h
theorem nthT_get {L : List (Int × Bool)} {k : Nat} (h : k < L.length) : nthT L k = L[k] := by
  unfold nthT
  rw [List.getD_eq_getElem?_getD, List.getElem?_eq_getElem h]
  rfl
theorem nm_iff {A : List NA} {L : List (Int × Bool)} : nmW A L = true ↔ ∀ x, x ∈ L → inW A x = true := by
  unfold nmW
  rw [all_range]
  constructor
  · intro h x hx
    obtain ⟨i, hi, rfl⟩ := List.mem_iff_getElem.1 hx
    have := h i hi
    rwa [nthT_get hi] at this
  · intro h i hi
    rw [nthT_get hi]
    exact h _ (List.getElem_mem _)
/-- A walk along steps, from a place to a place. -/
def wkW (A : List NA) : Int → List (Int × Bool) → Int → Prop
  | p, [], q => p = q
  | p, x :: L, q => stW A x = p ∧ wkW A (enW A x) L q
theorem wk_append {A : List NA} : ∀ {p r : Int} {L M : List (Int × Bool)}, wkW A p (L ++ M) r ↔ ∃ q, wkW A p L q ∧ wkW A q M r
  | p, r, [], M => ⟨fun h => ⟨p, rfl, h⟩, fun ⟨q, e, h⟩ => by cases e; exact h⟩
  | p, r, x :: L, M => by
    show (stW A x = p ∧ wkW A (enW A x) (L ++ M) r) ↔ ∃ q, (stW A x = p ∧ wkW A (enW A x) L q) ∧ wkW A q M r
    rw [wk_append]
    exact ⟨fun ⟨h, q, a, b⟩ => ⟨q, ⟨h, a⟩, b⟩, fun ⟨q, ⟨h, a⟩, b⟩ => ⟨h, q, a, b⟩⟩
theorem wk_ends {A : List NA} : ∀ {p q : Int} {L : List (Int × Bool)}, wkW A p L q → p :: L.map (enW A) = L.map (stW A) ++ [q]
  | p, q, [], h => by cases h; rfl
  | p, q, x :: L, ⟨h1, h2⟩ => by
    have := wk_ends h2
    show p :: enW A x :: L.map (enW A) = stW A x :: (L.map (stW A) ++ [q])
    rw [this, h1]
theorem wk_index {A : List NA} : ∀ {p q : Int} {L : List (Int × Bool)}, wkW A p L q ↔ (∀ i, i < L.length → stW A (nthT L i) = if i = 0 then p else enW A (nthT L (i - 1))) ∧ (if L.length = 0 then p else enW A (nthT L (L.length - 1))) = q
  | p, q, [] => by
    show p = q ↔ _
    simp
  | p, q, x :: L => by
    show (stW A x = p ∧ wkW A (enW A x) L q) ↔ _
    rw [wk_index]
    constructor
    · rintro ⟨h1, h2, h3⟩
      refine ⟨fun i hi => ?_, ?_⟩
      · cases i with
        | zero => exact h1
        | succ i =>
          have := h2 i (Nat.lt_of_succ_lt_succ hi)
          show stW A (nthT L i) = enW A (nthT (x :: L) i)
          rw [this]
          cases i with
          | zero => rfl
          | succ i => rfl
      · show enW A (nthT (x :: L) L.length) = q
        rw [← h3]
        cases e : L.length with
        | zero => rfl
        | succ k => rfl
    · rintro ⟨h1, h2⟩
      refine ⟨h1 0 (Nat.succ_pos _), fun i hi => ?_, ?_⟩
      · have := h1 (i + 1) (Nat.succ_lt_succ hi)
        have e : stW A (nthT (x :: L) (i + 1)) = stW A (nthT L i) := rfl
        rw [e] at this
        rw [this]
        cases i with
        | zero => rfl
        | succ i => rfl
      · rw [← h2]
        show _ = enW A (nthT (x :: L) L.length)
        cases e : L.length with
        | zero => rfl
        | succ k => rfl
theorem home_iff {A : List NA} {L : List (Int × Bool)} (h0 : 0 < L.length) : hmW A L = true ↔ ∃ p, wkW A p L p := by
  unfold hmW lkW preW
  rw [all_range]
  constructor
  · intro h
    refine ⟨enW A (nthT L (L.length - 1)), wk_index.2 ⟨fun i hi => ?_, by rw [if_neg (by omega)]⟩⟩
    have := of_decide_eq_true (h i hi)
    rw [this]
    split <;> rfl
  · rintro ⟨p, h⟩ i hi
    obtain ⟨h1, h2⟩ := wk_index.1 h
    rw [if_neg (by omega)] at h2
    rw [h1 i hi]
    apply decide_eq_true
    split
    · exact h2.symm
    · rfl
theorem tw_iff {A : List NA} {L : List (Int × Bool)} : twW A L = false ↔ (L.map Prod.fst).Nodup ∧ (L.map (stW A)).Nodup := by
  unfold twW frW paW
  rw [Bool.not_eq_false', all_range]
  unfold List.Nodup
  rw [List.pairwise_iff_getElem, List.pairwise_iff_getElem]
  constructor
  · intro h
    constructor
    · intro i j hi hj hij
      simp only [List.length_map] at hi hj
      have := all_range.1 (h j hj) i hij
      rw [nthT_get hi, nthT_get hj] at this
      simp at this
      rw [List.getElem_map, List.getElem_map]
      exact fun e => this.1 e.symm
    · intro i j hi hj hij
      simp only [List.length_map] at hi hj
      have := all_range.1 (h j hj) i hij
      rw [nthT_get hi, nthT_get hj] at this
      simp at this
      rw [List.getElem_map, List.getElem_map]
      exact fun e => this.2 e.symm
  · rintro ⟨h1, h2⟩ i hi
    rw [all_range]
    intro j hj
    have a := h1 j i (by simp; omega) (by simp; omega) hj
    have b := h2 j i (by simp; omega) (by simp; omega) hj
    rw [List.getElem_map, List.getElem_map] at a b
    rw [nthT_get hi, nthT_get (by omega)]
    simp
    exact ⟨fun e => a e.symm, fun e => b e.symm⟩
/-- A cycle, as the document says it. -/
structure CycW (A : List NA) (L : List (Int × Bool)) : Prop where
  some : 0 < L.length
  named : ∀ x, x ∈ L → inW A x = true
  home : ∃ p, wkW A p L p
  arcs : (L.map Prod.fst).Nodup
  starts : (L.map (stW A)).Nodup
theorem cyc_iff {A : List NA} {L : List (Int × Bool)} : cycW A L = true ↔ CycW A L := by
  unfold cycW
  simp only [Bool.and_eq_true, decide_eq_true_eq, Bool.not_eq_true']
  constructor
  · rintro ⟨⟨⟨h0, h1⟩, h2⟩, h3⟩
    exact ⟨h0, nm_iff.1 h1, (home_iff h0).1 h2, (tw_iff.1 h3).1, (tw_iff.1 h3).2⟩
  · intro h
    exact ⟨⟨⟨h.some, nm_iff.2 h.named⟩, (home_iff h.some).2 h.home⟩, tw_iff.2 ⟨h.arcs, h.starts⟩⟩
theorem CycW.few {A : List NA} {L : List (Int × Bool)} (h : CycW A L) : L.length ≤ A.length := by
  have := few_below A.length (L.map fun x => x.1.toNat) (by
    have ha := h.arcs
    unfold List.Nodup at ha ⊢
    rw [List.pairwise_map] at ha ⊢
    refine List.Pairwise.imp_of_mem (fun {x y} hx hy hxy e => hxy ?_) ha
    have n1 := h.named x hx
    have n2 := h.named y hy
    unfold inW at n1 n2
    simp at n1 n2
    omega) (fun x hx => by
    obtain ⟨y, hy, rfl⟩ := List.mem_map.1 hx
    have n1 := h.named y hy
    unfold inW at n1
    simp at n1
    omega)
  simpa using this
theorem wk_perm {A : List NA} {p : Int} {L : List (Int × Bool)} (h : wkW A p L p) : (L.map (enW A)).Perm (L.map (stW A)) := by
  have e := wk_ends h
  have h1 : (p :: L.map (enW A)).Perm (p :: L.map (stW A)) := by rw [e]; exact List.perm_append_singleton _ _
  exact List.Perm.cons_inv h1
/-- Begun at the second step. -/
theorem CycW.turn {A : List NA} {x : Int × Bool} {L : List (Int × Bool)} (h : CycW A (x :: L)) : CycW A (L ++ [x]) := by
  have hp : (L ++ [x]).Perm (x :: L) := List.perm_append_singleton _ _
  obtain ⟨p, h1, h2⟩ := h.home
  refine ⟨by simp, fun y hy => h.named y ((List.Perm.mem_iff hp).1 hy), ⟨enW A x, wk_append.2 ⟨p, h2, h1, rfl⟩⟩, ((hp.map _).nodup_iff).2 h.arcs, ((hp.map _).nodup_iff).2 h.starts⟩
/-- The other way round. -/
def rvW : List (Int × Bool) → List (Int × Bool)
  | [] => []
  | x :: L => rvW L ++ [(x.1, !x.2)]
theorem rv_map (L : List (Int × Bool)) : rvW L = (L.map fun x => (x.1, !x.2)).reverse := by
  induction L with
  | nil => rfl
  | cons x L ih => show rvW L ++ [_] = _; rw [ih, List.map_cons, List.reverse_cons]
theorem rv_len (L : List (Int × Bool)) : (rvW L).length = L.length := by rw [rv_map]; simp
theorem back_st (A : List NA) (x : Int × Bool) : stW A (x.1, !x.2) = enW A x ∧ enW A (x.1, !x.2) = stW A x ∧ (tkW A (x.1, !x.2)).g = (tkW A x).k ∧ (tkW A (x.1, !x.2)).k = (tkW A x).g := by
  obtain ⟨i, b⟩ := x
  unfold stW enW tkW
  cases b <;> simp
theorem wk_back {A : List NA} : ∀ {p q : Int} {L : List (Int × Bool)}, wkW A p L q → wkW A q (rvW L) p
  | p, q, [], h => Eq.symm h
  | p, q, x :: L, ⟨h1, h2⟩ => by
    obtain ⟨b1, b2, -, -⟩ := back_st A x
    exact wk_append.2 ⟨enW A x, wk_back h2, b1, by rw [b2]; exact h1⟩
theorem CycW.back {A : List NA} {L : List (Int × Bool)} (h : CycW A L) : CycW A (rvW L) := by
  obtain ⟨p, hw⟩ := h.home
  refine ⟨by rw [rv_len]; exact h.some, fun y hy => ?_, ⟨p, wk_back hw⟩, ?_, ?_⟩
  · rw [rv_map, List.mem_reverse] at hy
    obtain ⟨x, hx, rfl⟩ := List.mem_map.1 hy
    exact h.named x hx
  · rw [rv_map, List.map_reverse, List.map_map]
    exact ((List.reverse_perm _).nodup_iff).2 h.arcs
  · rw [rv_map, List.map_reverse, List.map_map]
    refine ((List.reverse_perm _).nodup_iff).2 ?_
    have e : (stW A ∘ fun x : Int × Bool => (x.1, !x.2)) = enW A := by funext x; exact (back_st A x).1
    rw [e]
    exact ((wk_perm hw).nodup_iff).2 h.starts
end Go.Proofs.Ytdifaobfomfieaa
