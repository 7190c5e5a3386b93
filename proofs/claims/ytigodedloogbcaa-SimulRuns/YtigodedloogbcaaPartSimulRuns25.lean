/- Texts of one chain, laid one behind the other. -/
import Derived.Test.YtigodedloogbcaaPartSimulRuns9
import Derived.Test.YtigodedloogbcaaPartSimulRuns24
import Derived.Test.YtigodedloogbcaaPartSimulRuns16
namespace Go.Proofs.Ytigodedloogbcaa
open Go.RowKit
def nthT (L : List (Int × Bool)) (k : Nat) : Int × Bool := L.getD k (0, false)
/-- A step's arc, turned about if the step goes back. -/
def tkW (A : List NA) (x : Int × Bool) : NA := if x.2 = true then ⟨(nthNa A x.1.toNat).t, (nthNa A x.1.toNat).f, (nthNa A x.1.toNat).k, (nthNa A x.1.toNat).g, (nthNa A x.1.toNat).s⟩ else nthNa A x.1.toNat
def stW (A : List NA) (x : Int × Bool) : Int := (tkW A x).f
def enW (A : List NA) (x : Int × Bool) : Int := (tkW A x).t
def inW (A : List NA) (x : Int × Bool) : Bool := decide (0 ≤ x.1) && decide (x.1 < (A.length : Int))
/-- A walk along steps, from a place to a place. -/
def wkW (A : List NA) : Int → List (Int × Bool) → Int → Prop
  | p, [], q => p = q
  | p, x :: L, q => stW A x = p ∧ wkW A (enW A x) L q
theorem wk_append {A : List NA} : ∀ {p r : Int} {L M : List (Int × Bool)}, wkW A p (L ++ M) r ↔ ∃ q, wkW A p L q ∧ wkW A q M r
  | p, r, [], M => ⟨fun h => ⟨p, rfl, h⟩, fun ⟨q, e, h⟩ => by cases e; exact h⟩
  | p, r, x :: L, M => by
    show (stW A x = p ∧ wkW A (enW A x) (L ++ M) r) ↔ ∃ q, (stW A x = p ∧ wkW A (enW A x) L q) ∧ wkW A q M r
    rw [wk_append]
    exact ⟨fun ⟨h, q, a, b⟩ => ⟨q, ⟨h, a⟩, b⟩, fun ⟨q, ⟨h, a⟩, b⟩ => ⟨h, q, a, b⟩⟩
theorem wk_ends {A : List NA} : ∀ {p q : Int} {L : List (Int × Bool)}, wkW A p L q → p :: L.map (enW A) = L.map (stW A) ++ [q]
  | p, q, [], h => by cases h; rfl
  | p, q, x :: L, ⟨h1, h2⟩ => by
    have := wk_ends h2
    show p :: enW A x :: L.map (enW A) = stW A x :: (L.map (stW A) ++ [q])
    rw [this, h1]
/-- A cycle, as the document says it. -/
structure CycW (A : List NA) (L : List (Int × Bool)) : Prop where
  some : 0 < L.length
  named : ∀ x, x ∈ L → inW A x = true
  home : ∃ p, wkW A p L p
  arcs : (L.map Prod.fst).Nodup
  starts : (L.map (stW A)).Nodup
theorem CycW.few {A : List NA} {L : List (Int × Bool)} (h : CycW A L) : L.length ≤ A.length := by
  have := few_below A.length (L.map fun x => x.1.toNat) (by
    have ha := h.arcs
    unfold List.Nodup at ha ⊢
    rw [List.pairwise_map] at ha ⊢
    refine List.Pairwise.imp_of_mem (fun {x y} hx hy hxy e => hxy ?_) ha
    have n1 := h.named x hx
    have n2 := h.named y hy
    unfold inW at n1 n2
    simp at n1 n2
    omega) (fun x hx => by
    obtain ⟨y, hy, rfl⟩ := List.mem_map.1 hx
    have n1 := h.named y hy
    unfold inW at n1
    simp at n1
    omega)
  simpa using this
theorem wk_perm {A : List NA} {p : Int} {L : List (Int × Bool)} (h : wkW A p L p) : (L.map (enW A)).Perm (L.map (stW A)) := by
  have e := wk_ends h
  have h1 : (p :: L.map (enW A)).Perm (p :: L.map (stW A)) := by rw [e]; exact List.perm_append_singleton _ _
  exact List.Perm.cons_inv h1
/-- Begun at the second step. -/
theorem CycW.turn {A : List NA} {x : Int × Bool} {L : List (Int × Bool)} (h : CycW A (x :: L)) : CycW A (L ++ [x]) := by
  have hp : (L ++ [x]).Perm (x :: L) := List.perm_append_singleton _ _
  obtain ⟨p, h1, h2⟩ := h.home
  refine ⟨by simp, fun y hy => h.named y ((List.Perm.mem_iff hp).1 hy), ⟨enW A x, wk_append.2 ⟨p, h2, h1, rfl⟩⟩, ((hp.map _).nodup_iff).2 h.arcs, ((hp.map _).nodup_iff).2 h.starts⟩
/-- The other way round. -/
def rvW : List (Int × Bool) → List (Int × Bool)
  | [] => []
  | x :: L => rvW L ++ [(x.1, !x.2)]
theorem rv_map (L : List (Int × Bool)) : rvW L = (L.map fun x => (x.1, !x.2)).reverse := by
  induction L with
  | nil => rfl
  | cons x L ih => show rvW L ++ [_] = _; rw [ih, List.map_cons, List.reverse_cons]
theorem rv_len (L : List (Int × Bool)) : (rvW L).length = L.length := by rw [rv_map]; simp
theorem back_st (A : List NA) (x : Int × Bool) : stW A (x.1, !x.2) = enW A x ∧ enW A (x.1, !x.2) = stW A x ∧ (tkW A (x.1, !x.2)).g = (tkW A x).k ∧ (tkW A (x.1, !x.2)).k = (tkW A x).g := by
  obtain ⟨i, b⟩ := x
  unfold stW enW tkW
  cases b <;> simp
theorem wk_back {A : List NA} : ∀ {p q : Int} {L : List (Int × Bool)}, wkW A p L q → wkW A q (rvW L) p
  | p, q, [], h => Eq.symm h
  | p, q, x :: L, ⟨h1, h2⟩ => by
    obtain ⟨b1, b2, -, -⟩ := back_st A x
    exact wk_append.2 ⟨enW A x, wk_back h2, b1, by rw [b2]; exact h1⟩
theorem CycW.back {A : List NA} {L : List (Int × Bool)} (h : CycW A L) : CycW A (rvW L) := by
  obtain ⟨p, hw⟩ := h.home
  refine ⟨by rw [rv_len]; exact h.some, fun y hy => ?_, ⟨p, wk_back hw⟩, ?_, ?_⟩
  · rw [rv_map, List.mem_reverse] at hy
    obtain ⟨x, hx, rfl⟩ := List.mem_map.1 hy
    exact h.named x hx
  · rw [rv_map, List.map_reverse, List.map_map]
    exact ((List.reverse_perm _).nodup_iff).2 h.arcs
  · rw [rv_map, List.map_reverse, List.map_map]
    refine ((List.reverse_perm _).nodup_iff).2 ?_
    have e : (stW A ∘ fun x : Int × Bool => (x.1, !x.2)) = enW A := by funext x; exact (back_st A x).1
    rw [e]
    exact ((wk_perm hw).nodup_iff).2 h.starts
/-- A node behind all that the arcs join stands alone. -/
theorem alone {A : List NA} {N v : Nat} (hv : N ≤ v) : ∀ {k : Nat}, (∀ j, j < k → fN A j < N ∧ tN A j < N) → homF A k v = v ∧ cntB A k v = 1
  | 0, _ => ⟨rfl, rfl⟩
  | k + 1, h => by
    obtain ⟨h1, h2⟩ := alone hv (k := k) fun j hj => h j (by omega)
    obtain ⟨f1, t1⟩ := h k (by omega)
    have l1 := homF_le (A := A) (k := k) (v := fN A k)
    have l2 := homF_le (A := A) (k := k) (v := tN A k)
    by_cases q : homF A k (fN A k) = homF A k (tN A k)
    · rw [homF_same q, cntB_same q]; exact ⟨h1, h2⟩
    · rw [home_new q, cntB_new q, h1]
      unfold joinB
      rw [h1, if_neg (by omega), if_neg (by omega), if_neg (by omega)]
      exact ⟨rfl, h2⟩
/-- x over y in lowest terms. -/
def shB (x y : Nat) : Int × Int := (lowN x y, lowD x y)
theorem shB_valid {x y : Nat} (hy : 1 ≤ y) : validB (shB x y).1 (shB x y).2 = true := (low_valid (n := (x : Int)) (d := (y : Int)) (by omega)).1
theorem shB_worth {x y : Nat} (hy : 1 ≤ y) : (shB x y).1 * (y : Int) = (x : Int) * (shB x y).2 := (low_valid (n := (x : Int)) (d := (y : Int)) (by omega)).2
theorem shB_eq (x y : Nat) : shB x y = (((x / Nat.gcd x y : Nat) : Int), ((y / Nat.gcd x y : Nat) : Int)) := by
  have h0 : ¬ ((y : Int) < 0) := by omega
  have hg : gg (x : Int) (y : Int) = Nat.gcd x y := by simp [gg]
  unfold shB lowN lowD
  rw [if_neg h0, if_neg h0, hg]
  rfl
theorem shB_low {x y : Nat} : 0 ≤ (shB x y).1 ∧ (shB x y).1 ≤ (x : Int) ∧ 0 ≤ (shB x y).2 ∧ (shB x y).2 ≤ (y : Int) := by
  rw [shB_eq]
  have h1 := Nat.div_le_self x (Nat.gcd x y)
  have h2 := Nat.div_le_self y (Nat.gcd x y)
  refine ⟨Int.natCast_nonneg _, Int.ofNat_le.2 h1, Int.natCast_nonneg _, Int.ofNat_le.2 h2⟩
theorem shB_fits {x y : Nat} (hx : x ≤ 9223372036854775807) (hy : y ≤ 9223372036854775807) : fitB (shB x y).1 = true ∧ fitB (shB x y).2 = true := by
  obtain ⟨h1, h2, h3, h4⟩ := shB_low (x := x) (y := y)
  exact ⟨fitB_yes (by omega), fitB_yes (by omega)⟩
/-! ### The least scale -/
/-! ### Who is asked -/
def subB (V U : Nat → Bool) : Prop := ∀ v, V v = true → U v = true
def putB (V : Nat → Bool) (x : Nat) : Nat → Bool := fun v => if v = x then true else V v
theorem putB_at (V : Nat → Bool) (x : Nat) : putB V x x = true := by unfold putB; rw [if_pos rfl]
theorem subB.trans {V U T : Nat → Bool} (h : subB V U) (k : subB U T) : subB V T := fun v hv => k v (h v hv)
/-- All neighbours of what is newly come to are come to, too; but for x. -/
def cloB (A : List NA) (T : List Nat) (V U : Nat → Bool) (x : Option Nat) : Prop := ∀ v, U v = true → V v = false → x ≠ some v → ∀ j, j ∈ T → ∀ y, crossF A j v = some y → U y.1 = true
theorem cloB_next {A : List NA} {T : List Nat} {V U R : Nat → Bool} {x : Option Nat} (h : cloB A T V U x) (k : cloB A T U R none) (s : subB U R) : cloB A T V R x := fun v h1 h2 h3 j hj y hy => by
  cases hu : U v with
  | true => exact s _ (h v hu h2 h3 j hj y hy)
  | false => exact k v h1 hu (fun e => by cases e) j hj y hy
/-- The members of a home's component. -/
def memB (H : Nat → Nat) (N h : Nat) : List Nat := (List.range N).filter fun v => H v == h
theorem memB_in {H : Nat → Nat} {N h v : Nat} : v ∈ memB H N h ↔ v < N ∧ H v = h := by
  unfold memB
  rw [List.mem_filter, List.mem_range]
  simp
end Go.Proofs.Ytigodedloogbcaa
