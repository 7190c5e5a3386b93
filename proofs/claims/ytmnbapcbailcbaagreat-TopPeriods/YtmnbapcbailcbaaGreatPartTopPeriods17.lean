/- Texts of one chain, laid one behind the other. -/
import Derived.Test.YtmnbapcbailcbaaGreatPartTopPeriods15
import Derived.Test.YtmnbapcbailcbaaGreatPartTopPeriods11
import Derived.Test.YtmnbapcbailcbaaGreatPartTopPeriods10
namespace Go.Proofs.YtmnbapcbailcbaaGreat
open Go.RowKit
def nthT (L : List (Int × Bool)) (k : Nat) : Int × Bool := L.getD k (0, false)
/-- A step's arc, turned about if the step goes back. -/
def tkW (A : List NA) (x : Int × Bool) : NA := if x.2 = true then ⟨(nthNa A x.1.toNat).t, (nthNa A x.1.toNat).f, (nthNa A x.1.toNat).k, (nthNa A x.1.toNat).g, (nthNa A x.1.toNat).s⟩ else nthNa A x.1.toNat
def stW (A : List NA) (x : Int × Bool) : Int := (tkW A x).f
def enW (A : List NA) (x : Int × Bool) : Int := (tkW A x).t
def inW (A : List NA) (x : Int × Bool) : Bool := decide (0 ≤ x.1) && decide (x.1 < (A.length : Int))
def nmW (A : List NA) (L : List (Int × Bool)) : Bool := (List.range L.length).all fun i => inW A (nthT L i)
def preW (n i : Nat) : Nat := if i = 0 then n - 1 else i - 1
def lkW (A : List NA) (L : List (Int × Bool)) (i : Nat) : Bool := decide (stW A (nthT L i) = enW A (nthT L (preW L.length i)))
def hmW (A : List NA) (L : List (Int × Bool)) : Bool := (List.range L.length).all (lkW A L)
def paW (A : List NA) (x y : Int × Bool) : Bool := decide (x.1 = y.1) || decide (stW A x = stW A y)
def frW (A : List NA) (L : List (Int × Bool)) (i : Nat) : Bool := (List.range i).all fun j => !paW A (nthT L i) (nthT L j)
def twW (A : List NA) (L : List (Int × Bool)) : Bool := !((List.range L.length).all (frW A L))
def cycW (A : List NA) (L : List (Int × Bool)) : Bool := decide (0 < L.length) && nmW A L && hmW A L && !twW A L
def gvW (A : List NA) (L : List (Int × Bool)) : List Int := L.map fun x => (tkW A x).g
def kpW (A : List NA) (L : List (Int × Bool)) : List Int := L.map fun x => (tkW A x).k
def alW (A : List NA) (L : List (Int × Bool)) : Bool := decide (prodN' (nats (gvW A L)) = prodN' (nats (kpW A L)))
def conW (n : NN) (L : List (Int × Bool)) : Int := if checkN n = 0 then (if cycW n.arcs L = true then (if alW n.arcs L = true then 121 else 0) else 120) else checkN n
theorem all_range {n : Nat} {p : Nat → Bool} : (List.range n).all p = true ↔ ∀ i, i < n → p i = true := by simp [List.all_eq_true, List.mem_range]
theorem all_miss {n i : Nat} {p : Nat → Bool} (hi : i < n) (h : p i = false) : (List.range n).all p = false := by
  rw [← Bool.not_eq_true, all_range]
  exact fun x => by rw [x i hi] at h; cases h
theorem nthT_get {L : List (Int × Bool)} {k : Nat} (h : k < L.length) : nthT L k = L[k] := by
  unfold nthT
  rw [List.getD_eq_getElem?_getD, List.getElem?_eq_getElem h]
  rfl
theorem nm_iff {A : List NA} {L : List (Int × Bool)} : nmW A L = true ↔ ∀ x, x ∈ L → inW A x = true := by
  unfold nmW
  rw [all_range]
  constructor
  · intro h x hx
    obtain ⟨i, hi, rfl⟩ := List.mem_iff_getElem.1 hx
    have := h i hi
    rwa [nthT_get hi] at this
  · intro h i hi
    rw [nthT_get hi]
    exact h _ (List.getElem_mem _)
/-- A walk along steps, from a place to a place. -/
def wkW (A : List NA) : Int → List (Int × Bool) → Int → Prop
  | p, [], q => p = q
  | p, x :: L, q => stW A x = p ∧ wkW A (enW A x) L q
theorem wk_append {A : List NA} : ∀ {p r : Int} {L M : List (Int × Bool)}, wkW A p (L ++ M) r ↔ ∃ q, wkW A p L q ∧ wkW A q M r
  | p, r, [], M => ⟨fun h => ⟨p, rfl, h⟩, fun ⟨q, e, h⟩ => by cases e; exact h⟩
  | p, r, x :: L, M => by
    show (stW A x = p ∧ wkW A (enW A x) (L ++ M) r) ↔ ∃ q, (stW A x = p ∧ wkW A (enW A x) L q) ∧ wkW A q M r
    rw [wk_append]
    exact ⟨fun ⟨h, q, a, b⟩ => ⟨q, ⟨h, a⟩, b⟩, fun ⟨q, ⟨h, a⟩, b⟩ => ⟨h, q, a, b⟩⟩
theorem wk_ends {A : List NA} : ∀ {p q : Int} {L : List (Int × Bool)}, wkW A p L q → p :: L.map (enW A) = L.map (stW A) ++ [q]
  | p, q, [], h => by cases h; rfl
  | p, q, x :: L, ⟨h1, h2⟩ => by
    have := wk_ends h2
    show p :: enW A x :: L.map (enW A) = stW A x :: (L.map (stW A) ++ [q])
    rw [this, h1]
theorem wk_index {A : List NA} : ∀ {p q : Int} {L : List (Int × Bool)}, wkW A p L q ↔ (∀ i, i < L.length → stW A (nthT L i) = if i = 0 then p else enW A (nthT L (i - 1))) ∧ (if L.length = 0 then p else enW A (nthT L (L.length - 1))) = q
  | p, q, [] => by
    show p = q ↔ _
    simp
  | p, q, x :: L => by
    show (stW A x = p ∧ wkW A (enW A x) L q) ↔ _
    rw [wk_index]
    constructor
    · rintro ⟨h1, h2, h3⟩
      refine ⟨fun i hi => ?_, ?_⟩
      · cases i with
        | zero => exact h1
        | succ i =>
          have := h2 i (Nat.lt_of_succ_lt_succ hi)
          show stW A (nthT L i) = enW A (nthT (x :: L) i)
          rw [this]
          cases i with
          | zero => rfl
          | succ i => rfl
      · show enW A (nthT (x :: L) L.length) = q
        rw [← h3]
        cases e : L.length with
        | zero => rfl
        | succ k => rfl
    · rintro ⟨h1, h2⟩
      refine ⟨h1 0 (Nat.succ_pos _), fun i hi => ?_, ?_⟩
      · have := h1 (i + 1) (Nat.succ_lt_succ hi)
        have e : stW A (nthT (x :: L) (i + 1)) = stW A (nthT L i) := rfl
        rw [e] at this
        rw [this]
        cases i with
        | zero => rfl
        | succ i => rfl
      · rw [← h2]
        show _ = enW A (nthT (x :: L) L.length)
        cases e : L.length with
        | zero => rfl
        | succ k => rfl
theorem home_iff {A : List NA} {L : List (Int × Bool)} (h0 : 0 < L.length) : hmW A L = true ↔ ∃ p, wkW A p L p := by
  unfold hmW lkW preW
  rw [all_range]
  constructor
  · intro h
    refine ⟨enW A (nthT L (L.length - 1)), wk_index.2 ⟨fun i hi => ?_, by rw [if_neg (by omega)]⟩⟩
    have := of_decide_eq_true (h i hi)
    rw [this]
    split <;> rfl
  · rintro ⟨p, h⟩ i hi
    obtain ⟨h1, h2⟩ := wk_index.1 h
    rw [if_neg (by omega)] at h2
    rw [h1 i hi]
    apply decide_eq_true
    split
    · exact h2.symm
    · rfl
theorem tw_iff {A : List NA} {L : List (Int × Bool)} : twW A L = false ↔ (L.map Prod.fst).Nodup ∧ (L.map (stW A)).Nodup := by
  unfold twW frW paW
  rw [Bool.not_eq_false', all_range]
  unfold List.Nodup
  rw [List.pairwise_iff_getElem, List.pairwise_iff_getElem]
  constructor
  · intro h
    constructor
    · intro i j hi hj hij
      simp only [List.length_map] at hi hj
      have := all_range.1 (h j hj) i hij
      rw [nthT_get hi, nthT_get hj] at this
      simp at this
      rw [List.getElem_map, List.getElem_map]
      exact fun e => this.1 e.symm
    · intro i j hi hj hij
      simp only [List.length_map] at hi hj
      have := all_range.1 (h j hj) i hij
      rw [nthT_get hi, nthT_get hj] at this
      simp at this
      rw [List.getElem_map, List.getElem_map]
      exact fun e => this.2 e.symm
  · rintro ⟨h1, h2⟩ i hi
    rw [all_range]
    intro j hj
    have a := h1 j i (by simp; omega) (by simp; omega) hj
    have b := h2 j i (by simp; omega) (by simp; omega) hj
    rw [List.getElem_map, List.getElem_map] at a b
    rw [nthT_get hi, nthT_get (by omega)]
    simp
    exact ⟨fun e => a e.symm, fun e => b e.symm⟩
/-- A cycle, as the document says it. -/
structure CycW (A : List NA) (L : List (Int × Bool)) : Prop where
  some : 0 < L.length
  named : ∀ x, x ∈ L → inW A x = true
  home : ∃ p, wkW A p L p
  arcs : (L.map Prod.fst).Nodup
  starts : (L.map (stW A)).Nodup
theorem cyc_iff {A : List NA} {L : List (Int × Bool)} : cycW A L = true ↔ CycW A L := by
  unfold cycW
  simp only [Bool.and_eq_true, decide_eq_true_eq, Bool.not_eq_true']
  constructor
  · rintro ⟨⟨⟨h0, h1⟩, h2⟩, h3⟩
    exact ⟨h0, nm_iff.1 h1, (home_iff h0).1 h2, (tw_iff.1 h3).1, (tw_iff.1 h3).2⟩
  · intro h
    exact ⟨⟨⟨h.some, nm_iff.2 h.named⟩, (home_iff h.some).2 h.home⟩, tw_iff.2 ⟨h.arcs, h.starts⟩⟩
theorem CycW.few {A : List NA} {L : List (Int × Bool)} (h : CycW A L) : L.length ≤ A.length := by
  have := few_below A.length (L.map fun x => x.1.toNat) (by
    have ha := h.arcs
    unfold List.Nodup at ha ⊢
    rw [List.pairwise_map] at ha ⊢
    refine List.Pairwise.imp_of_mem (fun {x y} hx hy hxy e => hxy ?_) ha
    have n1 := h.named x hx
    have n2 := h.named y hy
    unfold inW at n1 n2
    simp at n1 n2
    omega) (fun x hx => by
    obtain ⟨y, hy, rfl⟩ := List.mem_map.1 hx
    have n1 := h.named y hy
    unfold inW at n1
    simp at n1
    omega)
  simpa using this
theorem wk_perm {A : List NA} {p : Int} {L : List (Int × Bool)} (h : wkW A p L p) : (L.map (enW A)).Perm (L.map (stW A)) := by
  have e := wk_ends h
  have h1 : (p :: L.map (enW A)).Perm (p :: L.map (stW A)) := by rw [e]; exact List.perm_append_singleton _ _
  exact List.Perm.cons_inv h1
/-- Begun at the second step. -/
theorem CycW.turn {A : List NA} {x : Int × Bool} {L : List (Int × Bool)} (h : CycW A (x :: L)) : CycW A (L ++ [x]) := by
  have hp : (L ++ [x]).Perm (x :: L) := List.perm_append_singleton _ _
  obtain ⟨p, h1, h2⟩ := h.home
  refine ⟨by simp, fun y hy => h.named y ((List.Perm.mem_iff hp).1 hy), ⟨enW A x, wk_append.2 ⟨p, h2, h1, rfl⟩⟩, ((hp.map _).nodup_iff).2 h.arcs, ((hp.map _).nodup_iff).2 h.starts⟩
/-- The other way round. -/
def rvW : List (Int × Bool) → List (Int × Bool)
  | [] => []
  | x :: L => rvW L ++ [(x.1, !x.2)]
theorem rv_map (L : List (Int × Bool)) : rvW L = (L.map fun x => (x.1, !x.2)).reverse := by
  induction L with
  | nil => rfl
  | cons x L ih => show rvW L ++ [_] = _; rw [ih, List.map_cons, List.reverse_cons]
theorem rv_len (L : List (Int × Bool)) : (rvW L).length = L.length := by rw [rv_map]; simp
theorem back_st (A : List NA) (x : Int × Bool) : stW A (x.1, !x.2) = enW A x ∧ enW A (x.1, !x.2) = stW A x ∧ (tkW A (x.1, !x.2)).g = (tkW A x).k ∧ (tkW A (x.1, !x.2)).k = (tkW A x).g := by
  obtain ⟨i, b⟩ := x
  unfold stW enW tkW
  cases b <;> simp
theorem wk_back {A : List NA} : ∀ {p q : Int} {L : List (Int × Bool)}, wkW A p L q → wkW A q (rvW L) p
  | p, q, [], h => Eq.symm h
  | p, q, x :: L, ⟨h1, h2⟩ => by
    obtain ⟨b1, b2, -, -⟩ := back_st A x
    exact wk_append.2 ⟨enW A x, wk_back h2, b1, by rw [b2]; exact h1⟩
theorem CycW.back {A : List NA} {L : List (Int × Bool)} (h : CycW A L) : CycW A (rvW L) := by
  obtain ⟨p, hw⟩ := h.home
  refine ⟨by rw [rv_len]; exact h.some, fun y hy => ?_, ⟨p, wk_back hw⟩, ?_, ?_⟩
  · rw [rv_map, List.mem_reverse] at hy
    obtain ⟨x, hx, rfl⟩ := List.mem_map.1 hy
    exact h.named x hx
  · rw [rv_map, List.map_reverse, List.map_map]
    exact ((List.reverse_perm _).nodup_iff).2 h.arcs
  · rw [rv_map, List.map_reverse, List.map_map]
    refine ((List.reverse_perm _).nodup_iff).2 ?_
    have e : (stW A ∘ fun x : Int × Bool => (x.1, !x.2)) = enW A := by funext x; exact (back_st A x).1
    rw [e]
    exact ((wk_perm hw).nodup_iff).2 h.starts
def toW (P : List (Nat × Bool)) : List (Int × Bool) := P.map fun x => ((x.1 : Int), x.2)
theorem tk_toW (A : List NA) (j : Nat) (b : Bool) : (tkW A ((j : Int), b)).g.toNat = (if b then kN A j else gN A j) ∧ (tkW A ((j : Int), b)).k.toNat = (if b then gN A j else kN A j) := by
  unfold tkW gN kN
  cases b <;> exact ⟨rfl, rfl⟩
/-- The rates along a path in the forest, and against it. -/
theorem path_rates {A : List NA} {T : List Nat} {c : Nat → Nat} (hT : ∀ j, j ∈ T → EvB A c j) : ∀ {P : List (Nat × Bool)} {s t : Nat}, WaF A T s P t → prodN' (nats (gvW A (toW P))) * c s = prodN' (nats (kpW A (toW P))) * c t
  | [], s, t, h => by rw [show s = t from h]; rfl
  | (j, b) :: P, s, t, ⟨hj, hs, hw⟩ => by
    have ih := path_rates hT hw
    have e := hT j hj
    obtain ⟨e1, e2⟩ := tk_toW A j b
    show ((tkW A ((j : Int), b)).g.toNat * prodN' (nats (gvW A (toW P)))) * c s = ((tkW A ((j : Int), b)).k.toNat * prodN' (nats (kpW A (toW P)))) * c t
    rw [e1, e2, ← hs]
    unfold EvB at e
    have key : (if b then kN A j else gN A j) * c (stF A (j, b)) = (if b then gN A j else kN A j) * c (enF A (j, b)) := by
      unfold stF enF
      cases b
      · exact e
      · exact e.symm
    generalize (if b = true then kN A j else gN A j) = p at *
    generalize (if b = true then gN A j else kN A j) = q at *
    calc p * prodN' (nats (gvW A (toW P))) * c (stF A (j, b)) = p * c (stF A (j, b)) * prodN' (nats (gvW A (toW P))) := by rw [Nat.mul_right_comm]
      _ = q * c (enF A (j, b)) * prodN' (nats (gvW A (toW P))) := by rw [key]
      _ = q * (prodN' (nats (gvW A (toW P))) * c (enF A (j, b))) := by rw [Nat.mul_assoc, Nat.mul_comm (c _)]
      _ = q * (prodN' (nats (kpW A (toW P))) * c t) := by rw [ih]
      _ = q * prodN' (nats (kpW A (toW P))) * c t := by rw [Nat.mul_assoc]
theorem nats_pos_of {A : List NA} {n : Nat} (hR : RatB A n) : ∀ {P : List (Nat × Bool)}, (∀ x, x ∈ P → x.1 < n) → 1 ≤ prodN' (nats (kpW A (toW P)))
  | [], _ => Nat.le_refl _
  | (j, b) :: P, h => by
    have ih := nats_pos_of hR fun x hx => h x (List.mem_cons_of_mem _ hx)
    obtain ⟨-, e2⟩ := tk_toW A j b
    obtain ⟨r1, r2⟩ := hR j (h (j, b) (List.mem_cons_self ..))
    show 1 ≤ (tkW A ((j : Int), b)).k.toNat * prodN' (nats (kpW A (toW P)))
    rw [e2]
    refine Nat.mul_pos ?_ ih
    cases b
    · exact r2
    · exact r1
/-- The products of the arc and the way back differ. -/
theorem unlike_al {A : List NA} {n i : Nat} (hR : RatB A n) (hne : ¬ EvB A (cntB A n) i) {P : List (Nat × Bool)} (hw : WaF A (treF A n) (tN A i) P (fN A i)) : alW A (((i : Int), false) :: toW P) = false := by
  have e := path_rates (c := cntB A n) (fun j hj => cntB_even hj) hw
  have pos := nats_pos_of hR (P := P) (fun x hx => treF_lt (hw.mem x hx))
  obtain ⟨e1, e2⟩ := tk_toW A i false
  unfold alW
  apply decide_eq_false
  intro h
  have h' : (tkW A ((i : Int), false)).g.toNat * prodN' (nats (gvW A (toW P))) = (tkW A ((i : Int), false)).k.toNat * prodN' (nats (kpW A (toW P))) := h
  rw [e1, e2] at h'
  simp only [Bool.false_eq_true, if_false] at h'
  refine hne ?_
  unfold EvB
  have q : prodN' (nats (kpW A (toW P))) * (gN A i * cntB A n (fN A i)) = prodN' (nats (kpW A (toW P))) * (kN A i * cntB A n (tN A i)) := by
    calc prodN' (nats (kpW A (toW P))) * (gN A i * cntB A n (fN A i)) = gN A i * (prodN' (nats (kpW A (toW P))) * cntB A n (fN A i)) := by rw [Nat.mul_left_comm]
      _ = gN A i * (prodN' (nats (gvW A (toW P))) * cntB A n (tN A i)) := by rw [e]
      _ = gN A i * prodN' (nats (gvW A (toW P))) * cntB A n (tN A i) := by rw [Nat.mul_assoc]
      _ = kN A i * prodN' (nats (kpW A (toW P))) * cntB A n (tN A i) := by rw [h']
      _ = prodN' (nats (kpW A (toW P))) * (kN A i * cntB A n (tN A i)) := by rw [Nat.mul_comm (kN A i), Nat.mul_assoc]
  exact Nat.eq_of_mul_eq_mul_left pos q
/-- A path that does not turn round has no arc twice. -/
theorem nb_arcs {A : List NA} {k : Nat} : ∀ {P : List (Nat × Bool)} {s t : Nat} {c : Option Nat}, WaF A (treF A k) s P t → NbF c P → (P.map (stF A)).Nodup → t ∉ P.map (stF A) → (P.map Prod.fst).Nodup
  | [], _, _, _, _, _, _, _ => List.nodup_nil
  | (j, b) :: P, s, t, c, ⟨hj, hs, hw⟩, hn, hd, ht => by
    rw [List.map_cons, List.nodup_cons] at hd
    rw [List.map_cons, List.mem_cons, not_or] at ht
    have ih := nb_arcs hw hn.2 hd.2 ht.2
    rw [List.map_cons, List.nodup_cons]
    refine ⟨fun hm => ?_, ih⟩
    obtain ⟨y, hy, ey⟩ := List.mem_map.1 hm
    obtain ⟨j', b'⟩ := y
    simp only at ey
    subst ey
    by_cases hb : b' = b
    · subst hb
      exact hd.1 (List.mem_map_of_mem hy)
    · have hst : stF A (j', b') = enF A (j', b) := by
        unfold stF enF
        cases b <;> cases b' <;> first | rfl | exact absurd rfl hb
      cases P with
      | nil => cases hy
      | cons z Q =>
        have hz : stF A z = enF A (j', b) := hw.2.1
        rcases List.mem_cons.1 hy with e | e
        · have h1 := hn.2.1
          rw [← e] at h1
          exact h1 rfl
        · rw [List.map_cons, List.nodup_cons] at hd
          exact hd.2.1 (by rw [hz, ← hst]; exact List.mem_map_of_mem e)
/-- The ends of the arcs are no less than 0. -/
def EndB (A : List NA) : Prop := ∀ j, j < A.length → (nthNa A j).f = (fN A j : Int) ∧ (nthNa A j).t = (tN A j : Int)
theorem st_toW {A : List NA} (hE : EndB A) {x : Nat × Bool} (hx : x.1 < A.length) : stW A ((x.1 : Int), x.2) = (stF A x : Int) ∧ enW A ((x.1 : Int), x.2) = (enF A x : Int) := by
  obtain ⟨j, b⟩ := x
  obtain ⟨h1, h2⟩ := hE j hx
  unfold stW enW tkW stF enF
  cases b
  · exact ⟨h1, h2⟩
  · exact ⟨h2, h1⟩
theorem wk_toW {A : List NA} (hE : EndB A) : ∀ {P : List (Nat × Bool)} {s t : Nat}, WaF A (treF A A.length) s P t → wkW A (s : Int) (toW P) (t : Int)
  | [], s, t, h => by rw [show s = t from h]; rfl
  | x :: P, s, t, ⟨hj, hs, hw⟩ => by
    obtain ⟨h1, h2⟩ := st_toW hE (treF_lt hj)
    refine ⟨by rw [← hs]; exact h1, ?_⟩
    rw [h2]
    exact wk_toW hE hw
/-- The arc, and the way back through the forest: a cycle. -/
theorem unlike_cyc {A : List NA} {i : Nat} (hE : EndB A) (hi : i < A.length) (hne : ¬ EvB A (cntB A A.length) i) {P : List (Nat × Bool)} {c : Option Nat} (hw : WaF A (treF A A.length) (tN A i) P (fN A i)) (hn : NbF c P) : CycW A (((i : Int), false) :: toW P) := by
  obtain ⟨n1, n2⟩ := nb_starts hw hn
  have n3 := nb_arcs hw hn n1 n2
  obtain ⟨s1, s2⟩ := st_toW hE (x := (i, false)) hi
  have hst : (toW P).map (stW A) = (P.map (stF A)).map (fun k : Nat => (k : Int)) := by
    unfold toW
    rw [List.map_map, List.map_map]
    exact List.map_congr_left fun x hx => (st_toW hE (treF_lt (hw.mem x hx))).1
  have har : (toW P).map Prod.fst = (P.map Prod.fst).map (fun k : Nat => (k : Int)) := by
    unfold toW
    rw [List.map_map, List.map_map]
    rfl
  have inj : ∀ {l : List Nat}, l.Nodup → (l.map (fun k : Nat => (k : Int))).Nodup := fun {l} h => by
    unfold List.Nodup at h ⊢
    rw [List.pairwise_map]
    exact h.imp fun {a b} hab e => hab (by exact_mod_cast e)
  refine ⟨by simp, fun x hx => ?_, ⟨(fN A i : Int), s1, ?_⟩, ?_, ?_⟩
  · rcases List.mem_cons.1 hx with rfl | hx
    · unfold inW; simp; omega
    · obtain ⟨y, hy, rfl⟩ := List.mem_map.1 hx
      have := treF_lt (hw.mem y hy)
      unfold inW; simp; omega
  · rw [s2]
    exact wk_toW hE hw
  · rw [List.map_cons, List.nodup_cons, har]
    refine ⟨fun hm => ?_, inj n3⟩
    obtain ⟨k, hk, ek⟩ := List.mem_map.1 hm
    have ek' : k = i := by have q : (k : Int) = (i : Int) := ek; omega
    subst ek'
    obtain ⟨y, hy, rfl⟩ := List.mem_map.1 hk
    exact hne (cntB_even (hw.mem y hy))
  · rw [List.map_cons, List.nodup_cons, hst, s1]
    refine ⟨fun hm => ?_, inj n1⟩
    obtain ⟨k, hk, ek⟩ := List.mem_map.1 hm
    have ek' : k = fN A i := by have q : (k : Int) = (fN A i : Int) := ek; omega
    rw [ek'] at hk
    exact n2 hk
/-- It is confirmed. -/
theorem unlike_con {n : NN} {i : Nat} (hc : checkN n = 0) (hR : RatB n.arcs n.arcs.length) (hE : EndB n.arcs) (hi : i < n.arcs.length) (hne : ¬ EvB n.arcs (cntB n.arcs n.arcs.length) i) {P : List (Nat × Bool)} {c : Option Nat} (hw : WaF n.arcs (treF n.arcs n.arcs.length) (tN n.arcs i) P (fN n.arcs i)) (hn : NbF c P) : conW n (((i : Int), false) :: toW P) = 0 := by
  unfold conW
  rw [if_pos hc, if_pos (cyc_iff.2 (unlike_cyc hE hi hne hw hn)), unlike_al hR hne hw]
  rfl
/-- A node behind all that the arcs join stands alone. -/
theorem alone {A : List NA} {N v : Nat} (hv : N ≤ v) : ∀ {k : Nat}, (∀ j, j < k → fN A j < N ∧ tN A j < N) → homF A k v = v ∧ cntB A k v = 1
  | 0, _ => ⟨rfl, rfl⟩
  | k + 1, h => by
    obtain ⟨h1, h2⟩ := alone hv (k := k) fun j hj => h j (by omega)
    obtain ⟨f1, t1⟩ := h k (by omega)
    have l1 := homF_le (A := A) (k := k) (v := fN A k)
    have l2 := homF_le (A := A) (k := k) (v := tN A k)
    by_cases q : homF A k (fN A k) = homF A k (tN A k)
    · rw [homF_same q, cntB_same q]; exact ⟨h1, h2⟩
    · rw [home_new q, cntB_new q, h1]
      unfold joinB
      rw [h1, if_neg (by omega), if_neg (by omega), if_neg (by omega)]
      exact ⟨rfl, h2⟩
/-- x over y in lowest terms. -/
def shB (x y : Nat) : Int × Int := (lowN x y, lowD x y)
theorem shB_valid {x y : Nat} (hy : 1 ≤ y) : validB (shB x y).1 (shB x y).2 = true := (low_valid (n := (x : Int)) (d := (y : Int)) (by omega)).1
theorem shB_worth {x y : Nat} (hy : 1 ≤ y) : (shB x y).1 * (y : Int) = (x : Int) * (shB x y).2 := (low_valid (n := (x : Int)) (d := (y : Int)) (by omega)).2
theorem shB_eq (x y : Nat) : shB x y = (((x / Nat.gcd x y : Nat) : Int), ((y / Nat.gcd x y : Nat) : Int)) := by
  have h0 : ¬ ((y : Int) < 0) := by omega
  have hg : gg (x : Int) (y : Int) = Nat.gcd x y := by simp [gg]
  unfold shB lowN lowD
  rw [if_neg h0, if_neg h0, hg]
  rfl
theorem shB_low {x y : Nat} : 0 ≤ (shB x y).1 ∧ (shB x y).1 ≤ (x : Int) ∧ 0 ≤ (shB x y).2 ∧ (shB x y).2 ≤ (y : Int) := by
  rw [shB_eq]
  have h1 := Nat.div_le_self x (Nat.gcd x y)
  have h2 := Nat.div_le_self y (Nat.gcd x y)
  refine ⟨Int.natCast_nonneg _, Int.ofNat_le.2 h1, Int.natCast_nonneg _, Int.ofNat_le.2 h2⟩
theorem shB_fits {x y : Nat} (hx : x ≤ 9223372036854775807) (hy : y ≤ 9223372036854775807) : fitB (shB x y).1 = true ∧ fitB (shB x y).2 = true := by
  obtain ⟨h1, h2, h3, h4⟩ := shB_low (x := x) (y := y)
  exact ⟨fitB_yes (by omega), fitB_yes (by omega)⟩
theorem shB_pos {x y : Nat} (hx : 1 ≤ x) (hy : 1 ≤ y) : 1 ≤ (shB x y).1 ∧ 1 ≤ (shB x y).2 := by
  rw [shB_eq]
  have h1 := div_gcd_pos (y := y) hx
  have h2 := div_gcd_pos' (x := x) hy
  exact ⟨Int.ofNat_le.2 h1, Int.ofNat_le.2 h2⟩
theorem shB_self {x : Nat} (hx : 1 ≤ x) : shB x x = (1, 1) := by
  rw [shB_eq, Nat.gcd_self, Nat.div_self hx]
  rfl
/-- Shares are carried along an arc. -/
theorem two_share {x z h p q : Nat} (hh : 1 ≤ h) (hq : 1 ≤ q) (e : p * x = q * z) : twoN (shB x h).1 (shB x h).2 (shB p q).1 (shB p q).2 = (shB z h).1 ∧ twoD (shB x h).1 (shB x h).2 (shB p q).1 (shB p q).2 = (shB z h).2 := by
  have v1 := shB_valid (x := x) hh
  have v2 := shB_valid (x := p) hq
  have v3 := shB_valid (x := z) hh
  have w1 := shB_worth (x := x) hh
  have w2 := shB_worth (x := p) hq
  have w3 := shB_worth (x := z) hh
  obtain ⟨t1, t2⟩ := two_valid v1 v2
  have pb := (validB_true.1 v1).1
  have pd := (validB_true.1 v2).1
  have eI : (p : Int) * (x : Int) = (q : Int) * (z : Int) := by rw [← Int.natCast_mul, ← Int.natCast_mul, e]
  refine valid_same t1 v3 ?_
  generalize (shB x h).1 = a at *
  generalize (shB x h).2 = b at *
  generalize (shB p q).1 = c at *
  generalize (shB p q).2 = d at *
  generalize (shB z h).1 = u at *
  generalize (shB z h).2 = v at *
  generalize twoN a b c d = T at *
  generalize twoD a b c d = U at *
  have hI : (h : Int) ≠ 0 := by omega
  have qI : (q : Int) ≠ 0 := by omega
  have k : (T * v) * (b * d * ((h : Int) * (q : Int))) = (u * U) * (b * d * ((h : Int) * (q : Int))) := by
    calc (T * v) * (b * d * ((h : Int) * (q : Int))) = (T * (b * d)) * (v * ((h : Int) * (q : Int))) := by ac_rfl
      _ = (a * c * U) * (v * ((h : Int) * (q : Int))) := by rw [t2]
      _ = (a * (h : Int)) * (c * (q : Int)) * (U * v) := by ac_rfl
      _ = ((x : Int) * b) * ((p : Int) * d) * (U * v) := by rw [w1, w2]
      _ = ((p : Int) * (x : Int)) * (b * d * (U * v)) := by ac_rfl
      _ = ((q : Int) * (z : Int)) * (b * d * (U * v)) := by rw [eI]
      _ = ((z : Int) * v) * ((q : Int) * b * d * U) := by ac_rfl
      _ = (u * (h : Int)) * ((q : Int) * b * d * U) := by rw [w3]
      _ = (u * U) * (b * d * ((h : Int) * (q : Int))) := by ac_rfl
  refine Int.eq_of_mul_eq_mul_right (fun z0 => ?_) k
  rcases Int.mul_eq_zero.1 z0 with z1 | z1
  · rcases Int.mul_eq_zero.1 z1 with z2 | z2 <;> omega
  · rcases Int.mul_eq_zero.1 z1 with z2 | z2 <;> omega
def pairB (x h p q : Nat) : List (Int × Int) := [shB x h, shB p q]
theorem mul_share {x z h p q : Nat} (hh : 1 ≤ h) (hq : 1 ≤ q) (e : p * x = q * z) (hf : fitB (shB x h).1 = true ∧ fitB (shB x h).2 = true) :
    (mulE (pairB x h p q) = 0 ∧ mulN (pairB x h p q) = (shB z h).1 ∧ mulD (pairB x h p q) = (shB z h).2 ∧ fitB (shB z h).1 = true ∧ fitB (shB z h).2 = true) ∨ (mulE (pairB x h p q) = 4 ∧ (9223372036854775807 < z ∨ 9223372036854775807 < h)) := by
  have v1 := shB_valid (x := x) hh
  have v2 := shB_valid (x := p) hq
  obtain ⟨o1, o2⟩ := two_one v1
  obtain ⟨s1, s2⟩ := two_share hh hq e
  have ha : allB (pairB x h p q) = true := by
    unfold pairB allB
    rw [v1]
    unfold allB
    rw [v2]
    rfl
  have hb : twoB 1 1 (shB x h).1 (shB x h).2 = true := by
    unfold twoB
    rw [o1, o2, hf.1, hf.2]
    rfl
  have hm : mulO 1 1 (pairB x h p q) = if twoB (shB x h).1 (shB x h).2 (shB p q).1 (shB p q).2 then some (twoN (shB x h).1 (shB x h).2 (shB p q).1 (shB p q).2, twoD (shB x h).1 (shB x h).2 (shB p q).1 (shB p q).2) else none := by
    unfold pairB
    rw [mulO, if_pos hb, o1, o2, mulO]
    rfl
  have ht : twoB (shB x h).1 (shB x h).2 (shB p q).1 (shB p q).2 = (fitB (shB z h).1 && fitB (shB z h).2) := by unfold twoB; rw [s1, s2]
  rw [ht, s1, s2] at hm
  by_cases hw : 9223372036854775807 < z ∨ 9223372036854775807 < h
  · cases hfz : (fitB (shB z h).1 && fitB (shB z h).2)
    · right
      rw [hfz] at hm
      refine ⟨?_, hw⟩
      unfold mulE
      rw [if_pos ha, hm]
      rfl
    · left
      rw [hfz] at hm
      rw [Bool.and_eq_true] at hfz
      unfold mulE mulN mulD
      rw [if_pos ha, if_pos ha, if_pos ha, hm]
      exact ⟨rfl, rfl, rfl, hfz.1, hfz.2⟩
  · left
    have hfz := shB_fits (x := z) (y := h) (by omega) (by omega)
    rw [hfz.1, hfz.2] at hm
    unfold mulE mulN mulD
    rw [if_pos ha, if_pos ha, if_pos ha, hm]
    exact ⟨rfl, rfl, rfl, hfz.1, hfz.2⟩
/-! ### The least scale -/
theorem lcmO_div {P : Nat} (hP : 1 ≤ P) : ∀ {L : List Int} {m : Nat}, m ∣ P → (∀ x, x ∈ L → x.natAbs ∣ P) → (lcmO m L = none → 9223372036854775807 < P) ∧ ∀ K, lcmO m L = some K → K ∣ P ∧ m ∣ K ∧ ∀ x, x ∈ L → x.natAbs ∣ K
  | [], m, hm, _ => ⟨(fun h => by cases h), fun K h => by cases h; exact ⟨hm, Nat.dvd_refl _, fun x hx => by cases hx⟩⟩
  | y :: L, m, hm, hL => by
    have hl : Nat.lcm m y.natAbs ∣ P := Nat.lcm_dvd hm (hL y (List.mem_cons_self ..))
    have ih := lcmO_div hP (L := L) hl (fun x hx => hL x (List.mem_cons_of_mem _ hx))
    constructor
    · intro h
      rw [lcmO] at h
      split at h
      · exact ih.1 h
      · rename_i hf
        have := Nat.le_of_dvd hP hl
        have hf' := fitB_false.1 (by simpa using hf)
        omega
    · intro K h
      rw [lcmO] at h
      split at h
      · obtain ⟨h1, h2, h3⟩ := ih.2 K h
        refine ⟨h1, Nat.dvd_trans (Nat.dvd_lcm_left _ _) h2, fun x hx => ?_⟩
        rcases List.mem_cons.1 hx with rfl | hx
        · exact Nat.dvd_trans (Nat.dvd_lcm_right _ _) h2
        · exact h3 x hx
      · cases h
def shsB (c : Nat → Nat) (h : Nat) (M : List Nat) : List (Int × Int) := M.map fun v => shB (c v) (c h)
theorem shsB_all {c : Nat → Nat} {h : Nat} (hh : 1 ≤ c h) : ∀ (M : List Nat), allB (shsB c h M) = true
  | [] => rfl
  | v :: M => by
    show (validB (shB (c v) (c h)).1 (shB (c v) (c h)).2 && allB (shsB c h M)) = true
    rw [shB_valid hh, shsB_all hh M]
    rfl
theorem den_dvd (x y : Nat) : (shB x y).2.natAbs ∣ y := by
  rw [shB_eq]
  exact ⟨Nat.gcd x y, (Nat.div_mul_cancel (Nat.gcd_dvd_right x y)).symm⟩
theorem whole_share {x y : Nat} (hy : 1 ≤ y) : (shB x y).1 * ((y : Int) / (shB x y).2) = (x : Int) := by
  rw [shB_eq]
  show ((x / Nat.gcd x y : Nat) : Int) * ((y : Int) / ((y / Nat.gcd x y : Nat) : Int)) = (x : Int)
  have h1 : y / (y / Nat.gcd x y) = Nat.gcd x y := Nat.div_div_self (Nat.gcd_dvd_right x y) (by omega)
  rw [← Int.natCast_ediv, h1, ← Int.natCast_mul, Nat.div_mul_cancel (Nat.gcd_dvd_left x y)]
theorem sc_whole {c : Nat → Nat} {h : Nat} (hc : ∀ v, 1 ≤ c v) (M : List Nat) : scL (c h) (shsB c h M) = M.map fun v => (c v : Int) := by
  unfold scL shsB
  rw [List.map_map]
  refine List.map_congr_left fun v _ => ?_
  exact whole_share (hc h)
theorem sc_fits {c : Nat → Nat} {h : Nat} (hc : ∀ v, 1 ≤ c v) : ∀ (M : List Nat), scB (c h) (shsB c h M) = false → ∃ v, v ∈ M ∧ 9223372036854775807 < c v
  | [], q => by cases q
  | v :: M, q => by
    have q' : (fitB ((shB (c v) (c h)).1 * ((c h : Int) / (shB (c v) (c h)).2)) && scB (c h) (shsB c h M)) = false := q
    rw [whole_share (hc h), Bool.and_eq_false_iff] at q'
    rcases q' with q' | q'
    · have := fitB_false.1 q'
      exact ⟨v, List.mem_cons_self .., by omega⟩
    · obtain ⟨u, hu, k⟩ := sc_fits hc M q'
      exact ⟨u, List.mem_cons_of_mem _ hu, k⟩
/-- A component's shares made whole: its counts, if they fit. -/
theorem scale_share {c : Nat → Nat} {h : Nat} {M : List Nat} (hc : ∀ v, 1 ≤ c v) (hh : h ∈ M) (h1 : ∀ d, (∀ v, v ∈ M → d ∣ c v) → d = 1) : (scOK (shsB c h M) = some (c h) ∧ scE (shsB c h M) = 0 ∧ scR (shsB c h M) = M.map fun v => (c v : Int)) ∨ (scE (shsB c h M) = 4 ∧ ∃ v, v ∈ M ∧ 9223372036854775807 < c v) := by
  have ha := shsB_all (hc h) M
  have hd : ∀ x, x ∈ densOf (shsB c h M) → x.natAbs ∣ c h := fun x hx => by
    unfold densOf shsB at hx
    rw [List.map_map] at hx
    obtain ⟨v, _, rfl⟩ := List.mem_map.1 hx
    exact den_dvd (c v) (c h)
  have hl := lcmO_div (hc h) (L := densOf (shsB c h M)) (Nat.one_dvd _) hd
  have eo : scOK (shsB c h M) = lcOK (shsB c h M) := by unfold scOK; rw [if_pos ha]
  cases hk : lcmO 1 (densOf (shsB c h M)) with
  | none =>
    right
    have e1 : lcOK (shsB c h M) = none := lcOK_none (fun K q => by rw [hk] at q; cases q)
    refine ⟨?_, h, hh, hl.1 hk⟩
    unfold scE
    rw [if_pos ha, eo, e1]
    rfl
  | some K =>
    obtain ⟨k1, -, k3⟩ := hl.2 K hk
    have eK : K = c h := by
      obtain ⟨d, ed⟩ := k1
      have d1 : d = 1 := h1 d fun v hv => by
        have m : (shB (c v) (c h)).2 ∈ densOf (shsB c h M) := by
          unfold densOf shsB
          rw [List.map_map]
          exact List.mem_map.2 ⟨v, hv, rfl⟩
        have q := k3 _ m
        rw [shB_eq] at q
        have q' : c h / Nat.gcd (c v) (c h) ∣ K := q
        obtain ⟨t, et⟩ := q'
        have e3 : c h / Nat.gcd (c v) (c h) * Nat.gcd (c v) (c h) = c h := Nat.div_mul_cancel (Nat.gcd_dvd_right _ _)
        have e4 : c h / Nat.gcd (c v) (c h) * (t * d) = c h / Nat.gcd (c v) (c h) * Nat.gcd (c v) (c h) := by
          rw [e3, ← Nat.mul_assoc, ← et, ← ed]
        have e5 := Nat.eq_of_mul_eq_mul_left (div_gcd_pos' (x := c v) (hc h)) e4
        exact Nat.dvd_trans ⟨t, by rw [← e5, Nat.mul_comm]⟩ (Nat.gcd_dvd_left (c v) (c h))
      rw [ed, d1, Nat.mul_one]
    subst eK
    cases hs : scB (c h) (shsB c h M) with
    | true =>
      left
      have e1 := lcOK_some hk hs
      refine ⟨by rw [eo, e1], ?_, ?_⟩
      · unfold scE
        rw [if_pos ha, eo, e1]
        rfl
      · unfold scR
        rw [eo, e1]
        exact sc_whole hc M
    | false =>
      right
      have e1 : lcOK (shsB c h M) = none := lcOK_none (fun K q => by rw [hk] at q; cases q; exact hs)
      refine ⟨?_, sc_fits hc M hs⟩
      unfold scE
      rw [if_pos ha, eo, e1]
      rfl
/-! ### Who is asked -/
/-- How many nodes are not come to yet. -/
def unvB (V : Nat → Bool) : Nat → Nat
  | 0 => 0
  | n + 1 => unvB V n + (if V n then 0 else 1)
def subB (V U : Nat → Bool) : Prop := ∀ v, V v = true → U v = true
theorem unv_le {V U : Nat → Bool} (h : subB V U) : ∀ n, unvB U n ≤ unvB V n
  | 0 => Nat.le_refl _
  | n + 1 => by
    have ih := unv_le h n
    have hn := h n
    unfold unvB
    cases hv : V n with
    | true => rw [hn hv]; simpa using ih
    | false => cases U n <;> simp <;> omega
theorem unv_lt {V U : Nat → Bool} {x : Nat} (h : subB V U) (h1 : V x = false) (h2 : U x = true) : ∀ {n}, x < n → unvB U n < unvB V n
  | 0, hx => absurd hx (Nat.not_lt_zero _)
  | n + 1, hx => by
    unfold unvB
    by_cases e : x = n
    · subst e
      have := unv_le h x
      rw [h1, h2]
      simp
      omega
    · have ih := unv_lt h h1 h2 (n := n) (by omega)
      have hn := h n
      cases hv : V n with
      | true => rw [hn hv]; simpa using ih
      | false => cases U n <;> simp <;> omega
theorem unv_most (V : Nat → Bool) : ∀ n, unvB V n ≤ n
  | 0 => Nat.le_refl _
  | n + 1 => by
    have := unv_most V n
    unfold unvB
    split <;> omega
def putB (V : Nat → Bool) (x : Nat) : Nat → Bool := fun v => if v = x then true else V v
theorem putB_sub (V : Nat → Bool) (x : Nat) : subB V (putB V x) := fun v h => by unfold putB; split; rfl; exact h
theorem putB_at (V : Nat → Bool) (x : Nat) : putB V x x = true := by unfold putB; rw [if_pos rfl]
theorem subB.trans {V U T : Nat → Bool} (h : subB V U) (k : subB U T) : subB V T := fun v hv => k v (h v hv)
/-- All neighbours of what is newly come to are come to, too; but for x. -/
def cloB (A : List NA) (T : List Nat) (V U : Nat → Bool) (x : Option Nat) : Prop := ∀ v, U v = true → V v = false → x ≠ some v → ∀ j, j ∈ T → ∀ y, crossF A j v = some y → U y.1 = true
theorem cloB_start (A : List NA) (T : List Nat) (V : Nat → Bool) (x : Nat) : cloB A T V (putB V x) (some x) := fun v h1 h2 h3 => by
  unfold putB at h1
  split at h1
  · rename_i e; exact absurd (by rw [e]) h3
  · rw [h1] at h2; cases h2
theorem cloB_next {A : List NA} {T : List Nat} {V U R : Nat → Bool} {x : Option Nat} (h : cloB A T V U x) (k : cloB A T U R none) (s : subB U R) : cloB A T V R x := fun v h1 h2 h3 j hj y hy => by
  cases hu : U v with
  | true => exact s _ (h v hu h2 h3 j hj y hy)
  | false => exact k v h1 hu (fun e => by cases e) j hj y hy
theorem cloB_end {A : List NA} {T : List Nat} {V U : Nat → Bool} {x : Nat} (h : cloB A T V U (some x)) (k : ∀ j, j ∈ T → ∀ y, crossF A j x = some y → U y.1 = true) : cloB A T V U none := fun v h1 h2 _ j hj y hy => by
  by_cases e : v = x
  · subst e; exact k j hj y hy
  · exact h v h1 h2 (fun q => by cases q; exact e rfl) j hj y hy
/-- What is closed has all that a path leads to. -/
theorem clo_walk {A : List NA} {T : List Nat} {U : Nat → Bool} (hT : ∀ j, j ∈ T → fN A j ≠ tN A j) (h : cloB A T (fun _ => false) U none) : ∀ {W : List (Nat × Bool)} {s t : Nat}, WaF A T s W t → U s = true → U t = true
  | [], _, _, hw, hs => by cases hw; exact hs
  | (j, b) :: W, s, t, hw, hs => by
    refine clo_walk hT h hw.2.2 ?_
    have hc := crossF_of (b := b) (hT j hw.1)
    rw [hw.2.1] at hc
    exact h s hs rfl (fun e => by cases e) j hw.1 _ hc
theorem clo_all {A : List NA} {k N : Nat} {U : Nat → Bool} (h : cloB A (treF A k) (fun _ => false) U none) (hh : ∀ v, v < N → homF A k v = v → U v = true) : ∀ v, v < N → U v = true := fun v hv => by
  obtain ⟨W, h1, -⟩ := (forF A k).way (homF A k v) v homF_idem
  exact clo_walk (fun j hj => tree_ends hj) h h1 (hh _ (Nat.lt_of_le_of_lt homF_le hv) homF_idem)
/-- The members of a home's component. -/
def memB (H : Nat → Nat) (N h : Nat) : List Nat := (List.range N).filter fun v => H v == h
theorem memB_in {H : Nat → Nat} {N h v : Nat} : v ∈ memB H N h ↔ v < N ∧ H v = h := by
  unfold memB
  rw [List.mem_filter, List.mem_range]
  simp
theorem cnt_mem {A : List NA} {N h d : Nat} (hR : RatB A A.length) (hA : ∀ j, j < A.length → fN A j < N ∧ tN A j < N) (hN : h < N) (hh : homF A A.length h = h) (hd : ∀ v, v ∈ memB (homF A A.length) N h → d ∣ cntB A A.length v) : d = 1 := by
  refine cntB_one hR (Nat.le_refl _) h d fun v hv => ?_
  rw [hh] at hv
  by_cases hvN : v < N
  · exact hd v (memB_in.2 ⟨hvN, hv⟩)
  · have := (alone (A := A) (N := N) (v := v) (by omega) (k := A.length) hA).1
    omega
end Go.Proofs.YtmnbapcbailcbaaGreat
