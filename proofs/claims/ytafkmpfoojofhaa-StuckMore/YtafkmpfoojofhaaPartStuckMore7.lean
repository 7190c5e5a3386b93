/- Texts of one chain, laid one behind the other. -/
import Derived.Test.YtafkmpfoojofhaaPartStuckMore5
import Derived.Test.YtafkmpfoojofhaaRows
import Derived.Test.YtafkmpfoojofhaaPartStuckMore1
import Derived.WalkKit
import Derived.ProofKit
import Derived.OpenShut
import Derived.BigQuiet
import Derived.Outline
import Derived.Laws.OwnMore
import Derived.Deep.OwnRows
import Derived.Test.YtafkmpfoojofhaaPartStuckMore6
namespace Go.Proofs.Ytafkmpfoojofhaa
open Go.ChangeShapes Go.WideShapes Go.ChangeAt Go.RowKit
/-! ### marks -/
theorem CapR.block {base : Nat} {w w' : World} {a : Option Addr} {cap : Nat} {zs : List Int} (h : CapR base w a cap zs) (hb : ∀ x, a = some x → w'.heap[x.block]? = w.heap[x.block]?) : CapR base w' a cap zs := by
  refine ⟨h.1, ?_⟩
  rcases h.2 with h2 | ⟨g, c, cur, hv, hg, hh, r⟩
  · exact .inl h2
  · refine .inr ⟨g, c, cur, hv, hg, ?_, r⟩
    cases hv
    rw [hb _ rfl]
    exact hh
theorem At.block {w w' : World} {a : Option Addr} {zs : List Int} (h : At w a zs) (hb : ∀ x, a = some x → w'.heap[x.block]? = w.heap[x.block]?) : At w' a zs := by
  rcases h with h | ⟨b, off, rfl, hc⟩
  · exact .inl h
  · refine .inr ⟨b, off, rfl, fun k hk => ?_⟩
    rw [World.cell?_of_block (w := w) (w' := w') (a := ⟨b, off + k, none⟩) (hb ⟨b, off, none⟩ rfl)]
    exact hc k hk
/-! ### The family, while it is marked -/
/-- Nothing below a bound has turned, nor what is no row of the family's. -/
def KeepA (B n H : Nat) (A : Nat → Option Addr) (w wr : World) : Prop :=
  Below B w wr ∧ ∀ k, k < w.heap.size → k ≠ H → (∀ j x, j < n → A j = some x → x.block ≠ k) → wr.heap[k]? = w.heap[k]?
theorem KeepA.set {B n H : Nat} {A : Nat → Option Addr} {w wr : World} (h : KeepA B n H A w wr) {g : Nat} (hg : B ≤ g) (hne : ∀ k, k < w.heap.size → k ≠ H → (∀ j x, j < n → A j = some x → x.block ≠ k) → k ≠ g) (k : Nat) (v : Value) : KeepA B n H A w (wr.setCell ⟨g, k, none⟩ v) :=
  ⟨h.1.setCell (p := ⟨g, k, none⟩) hg v, fun q h1 h2 h3 => (Below.heap_setCell wr ⟨g, k, none⟩ v q (hne q h1 h2 h3)).trans (h.2 q h1 h2 h3)⟩
/-! ### The family, while it grows -/
end Go.Proofs.Ytafkmpfoojofhaa
namespace Go.Proofs.Ytafkmpfoojofhaa
open Go.RowKit
structure NA where
  f : Int
  t : Int
  g : Int
  k : Int
  s : Int
structure NN where
  nodes : Int
  arcs : List NA
def nthNa (L : List NA) (i : Nat) : NA := L.getD i ⟨0, 0, 0, 0, 0⟩
def arcE (m : Int) (a : NA) : Int :=
  if a.f < 0 ∨ m ≤ a.f ∨ a.t < 0 ∨ m ≤ a.t then 100 else if a.g < 1 ∨ 64 < a.g ∨ a.k < 1 ∨ 64 < a.k then 101 else if a.s < 0 ∨ 256 < a.s then 88 else 0
def arcsE (m : Int) : List NA → Int
  | [] => 0
  | a :: L => if arcE m a = 0 then arcsE m L else arcE m a
def checkN (n : NN) : Int := if n.nodes < 1 ∨ 32 < n.nodes then 100 else if 96 < n.arcs.length then 81 else arcsE n.nodes n.arcs
theorem nthNa_zero (a : NA) (L : List NA) : nthNa (a :: L) 0 = a := rfl
theorem arcs_none {m : Int} : ∀ {L : List NA}, (∀ i, i < L.length → arcE m (nthNa L i) = 0) → arcsE m L = 0
  | [], _ => rfl
  | a :: L, h => by
    unfold arcsE
    rw [if_pos (show arcE m a = 0 from h 0 (Nat.succ_pos _))]
    exact arcs_none fun i hi => h (i + 1) (Nat.succ_lt_succ hi)
theorem arcs_some {m : Int} : ∀ {L : List NA} {i : Nat}, i < L.length → (∀ j, j < i → arcE m (nthNa L j) = 0) → arcE m (nthNa L i) ≠ 0 → arcsE m L = arcE m (nthNa L i)
  | [], i, hi, _, _ => absurd hi (Nat.not_lt_zero _)
  | a :: L, 0, _, _, h => by unfold arcsE; rw [nthNa_zero] at h ⊢; rw [if_neg h]
  | a :: L, i + 1, hi, hb, h => by
    unfold arcsE
    rw [if_pos (show arcE m a = 0 from hb 0 (Nat.succ_pos _))]
    exact arcs_some (Nat.lt_of_succ_lt_succ hi) (fun j hj => hb (j + 1) (Nat.succ_lt_succ hj)) h
theorem arcs_zero {m : Int} : ∀ {L : List NA}, arcsE m L = 0 → ∀ i, i < L.length → arcE m (nthNa L i) = 0
  | [], _, i, hi => absurd hi (Nat.not_lt_zero _)
  | a :: L, h, i, hi => by
    unfold arcsE at h
    by_cases h0 : arcE m a = 0
    · rw [if_pos h0] at h
      cases i with
      | zero => exact h0
      | succ i => exact arcs_zero h i (Nat.lt_of_succ_lt_succ hi)
    · rw [if_neg h0] at h; exact absurd h h0
structure SoundA (m : Int) (a : NA) : Prop where
  f : 0 ≤ a.f ∧ a.f < m
  t : 0 ≤ a.t ∧ a.t < m
  g : 1 ≤ a.g ∧ a.g ≤ 64
  k : 1 ≤ a.k ∧ a.k ≤ 64
  s : 0 ≤ a.s ∧ a.s ≤ 256
structure SoundN (n : NN) : Prop where
  nodes : 1 ≤ n.nodes ∧ n.nodes ≤ 32
  most : n.arcs.length ≤ 96
  arcs : ∀ i, i < n.arcs.length → SoundA n.nodes (nthNa n.arcs i)
theorem arcE_zero {m : Int} {a : NA} (h : arcE m a = 0) : SoundA m a := by
  unfold arcE at h
  split at h
  · exact absurd h (by decide)
  · split at h
    · exact absurd h (by decide)
    · split at h
      · exact absurd h (by decide)
      · exact ⟨by omega, by omega, by omega, by omega, by omega⟩
theorem check_sound {n : NN} (h : checkN n = 0) : SoundN n := by
  unfold checkN at h
  split at h
  · exact absurd h (by decide)
  · split at h
    · exact absurd h (by decide)
    · exact ⟨by omega, by omega, fun i hi => arcE_zero (arcs_zero h i hi)⟩
theorem wrap64_id {x : Int} (h : -9223372036854775808 ≤ x ∧ x ≤ 9223372036854775807) : wrap64 x = x := by unfold wrap64; omega
/-- Tokens that are few enough. -/
structure FewN (n : NN) (b : Int) (T : List Int) : Prop where
  len : T.length = n.arcs.length
  few : ∀ i, i < n.arcs.length → 0 ≤ nth T i ∧ nth T i ≤ b
theorem FewN.more {n : NN} {b b' : Int} {T : List Int} (h : FewN n b T) (hb : b ≤ b') : FewN n b' T := ⟨h.len, fun i hi => by have := h.few i hi; omega⟩
/-- The equation, and that the numbers are few. -/
structure EqN (n : NN) (m : Int) (T F : List Int) : Prop where
  few : FewN n (256 + 64 * m) T
  lF : F.length = n.nodes.toNat
  fs : ∀ v, v < n.nodes.toNat → 0 ≤ nth F v ∧ nth F v ≤ m
  eq : ∀ i, i < n.arcs.length → nth T i = (nthNa n.arcs i).s + (nthNa n.arcs i).g * nth F (nthNa n.arcs i).f.toNat - (nthNa n.arcs i).k * nth F (nthNa n.arcs i).t.toNat
theorem EqN.more {n : NN} {m m' : Int} {T F : List Int} (h : EqN n m T F) (hm : m ≤ m') : EqN n m' T F := ⟨h.few.more (by omega), h.lF, fun v hv => by have := h.fs v hv; omega, h.eq⟩
def fN (A : List NA) (j : Nat) : Nat := (nthNa A j).f.toNat
def tN (A : List NA) (j : Nat) : Nat := (nthNa A j).t.toNat
/-- Steps: an arc, and whether it is gone back. -/
def stF (A : List NA) (x : Nat × Bool) : Nat := if x.2 then tN A x.1 else fN A x.1
def enF (A : List NA) (x : Nat × Bool) : Nat := if x.2 then fN A x.1 else tN A x.1
/-- A path along arcs of T. -/
def WaF (A : List NA) (T : List Nat) : Nat → List (Nat × Bool) → Nat → Prop
  | s, [], t => s = t
  | s, x :: W, t => x.1 ∈ T ∧ stF A x = s ∧ WaF A T (enF A x) W t
/-- It does not turn round; c: the arc that led here, if any. -/
def NbF : Option Nat → List (Nat × Bool) → Prop
  | _, [] => True
  | c, x :: W => c ≠ some x.1 ∧ NbF (some x.1) W
theorem WaF.mono {A : List NA} {T T' : List Nat} (hT : ∀ j, j ∈ T → j ∈ T') : ∀ {W : List (Nat × Bool)} {s t : Nat}, WaF A T s W t → WaF A T' s W t
  | [], _, _, h => h
  | _ :: _, _, _, h => ⟨hT _ h.1, h.2.1, WaF.mono hT h.2.2⟩
theorem WaF.append {A : List NA} {T : List Nat} {u : Nat} : ∀ {W V : List (Nat × Bool)} {s t : Nat}, WaF A T s W t → WaF A T t V u → WaF A T s (W ++ V) u
  | [], _, _, _, h, k => by cases h; exact k
  | _ :: _, _, _, _, h, k => ⟨h.1, h.2.1, WaF.append h.2.2 k⟩
theorem WaF.split {A : List NA} {T : List Nat} {u : Nat} : ∀ {W V : List (Nat × Bool)} {s : Nat}, WaF A T s (W ++ V) u → ∃ t, WaF A T s W t ∧ WaF A T t V u
  | [], _, s, h => ⟨s, rfl, h⟩
  | _ :: W, _, _, h => by
    obtain ⟨t, h1, h2⟩ := WaF.split (W := W) h.2.2
    exact ⟨t, ⟨h.1, h.2.1, h1⟩, h2⟩
theorem WaF.only {A : List NA} {T T' : List Nat} : ∀ {W : List (Nat × Bool)} {s t : Nat}, WaF A T s W t → (∀ x, x ∈ W → x.1 ∈ T') → WaF A T' s W t
  | [], _, _, h, _ => h
  | x :: _, _, _, h, hk => ⟨hk x (List.mem_cons_self ..), h.2.1, WaF.only h.2.2 (fun y hy => hk y (List.mem_cons_of_mem _ hy))⟩
/-- The arc that led to the end. -/
def lastF : Option Nat → List (Nat × Bool) → Option Nat
  | c, [] => c
  | _, x :: W => lastF (some x.1) W
theorem NbF.split : ∀ {W V : List (Nat × Bool)} {c : Option Nat}, NbF c (W ++ V) → NbF c W ∧ NbF (lastF c W) V
  | [], _, _, h => ⟨trivial, h⟩
  | _ :: W, _, _, h => ⟨⟨h.1, (NbF.split (W := W) h.2).1⟩, (NbF.split (W := W) h.2).2⟩
theorem NbF.append : ∀ {W V : List (Nat × Bool)} {c : Option Nat}, NbF c W → NbF (lastF c W) V → NbF c (W ++ V)
  | [], _, _, _, h => h
  | _ :: _, _, _, h, k => ⟨h.1, NbF.append h.2 k⟩
/-- Where arc j leads from a node, and whether that is back. -/
def crossF (A : List NA) (j v : Nat) : Option (Nat × Bool) := if fN A j = v then some (tN A j, false) else if tN A j = v then some (fN A j, true) else none
theorem crossF_some {A : List NA} {j v x : Nat} {b : Bool} (h : crossF A j v = some (x, b)) : stF A (j, b) = v ∧ enF A (j, b) = x := by
  unfold crossF at h
  split at h
  · rename_i q; cases h; exact ⟨q, rfl⟩
  · split at h
    · rename_i q; cases h; exact ⟨q, rfl⟩
    · cases h
/-- No path from here that does not turn round has k steps. -/
def DeepF (A : List NA) (T : List Nat) (k v : Nat) (came : Option Nat) : Prop := ∀ W t, WaF A T v W t → NbF came W → W.length < k
theorem DeepF.next {A : List NA} {T : List Nat} {k v : Nat} {came : Option Nat} (h : DeepF A T (k + 1) v came) {j x : Nat} {b : Bool} (hj : j ∈ T) (hx : crossF A j v = some (x, b)) (hc : came ≠ some j) : DeepF A T k x (some j) := fun W t hw hn => by
  have q := crossF_some hx
  have := h ((j, b) :: W) t ⟨hj, q.1, by rw [q.2]; exact hw⟩ ⟨hc, hn⟩
  exact Nat.lt_of_succ_lt_succ this
structure BK where
  n : Int
  f : Int
  a : Int
def nthBk (L : List BK) (i : Nat) : BK := L.getD i ⟨0, 0, 0⟩
def isK (v : Int) (b : BK) : Bool := decide (b.n = v)
def hasK (L : List BK) (v : Int) : Bool := L.any (isK v)
def atK (L : List BK) (v : Int) : BK := (L.find? (isK v)).getD ⟨0, 0, 0⟩
def inK (m : Int) (b : BK) : Bool := decide (0 ≤ b.n ∧ b.n < m)
def apK (m : Int) (L : List BK) : Bool := L.all (inK m) && decide (L.map BK.n).Nodup
def arcK (n : NN) (b : BK) : NA := nthNa n.arcs b.a.toNat
def limK (n : NN) (b : BK) : Bool := decide (0 ≤ b.f ∧ b.f ≤ 4096 ∧ 0 ≤ b.a ∧ b.a < (n.arcs.length : Int))
def linkK (n : NN) (L : List BK) (b : BK) : Bool := limK n b && (decide ((arcK n b).t = b.n) && hasK L (arcK n b).f)
def looK (n : NN) (L : List BK) (b : BK) : Bool := decide ((arcK n b).k * (b.f + 1) ≤ (arcK n b).s + (arcK n b).g * (atK L (arcK n b).f).f)
def conK (n : NN) (L : List BK) : Int :=
  if checkN n = 0 then (if L.length = 0 ∨ apK n.nodes L = false ∨ L.all (linkK n L) = false then 140 else if L.any (looK n L) = true then 141 else 0) else checkN n
theorem nthBk_get {L : List BK} {i : Nat} (h : i < L.length) : nthBk L i = L[i] := by
  unfold nthBk; rw [List.getD_eq_getElem?_getD, List.getElem?_eq_getElem h]; rfl
theorem nthBk_mem {L : List BK} {i : Nat} (h : i < L.length) : nthBk L i ∈ L := by rw [nthBk_get h]; exact List.getElem_mem h
theorem mem_nthBk {L : List BK} {b : BK} (h : b ∈ L) : ∃ i, i < L.length ∧ nthBk L i = b := by
  obtain ⟨i, hi, e⟩ := List.getElem_of_mem h
  exact ⟨i, hi, by rw [nthBk_get hi]; exact e⟩
theorem isK_iff {v : Int} {b : BK} : isK v b = true ↔ b.n = v := by unfold isK; exact decide_eq_true_iff
theorem hasK_iff {L : List BK} {v : Int} : hasK L v = true ↔ ∃ b ∈ L, b.n = v := by
  unfold hasK
  rw [List.any_eq_true]
  exact ⟨fun ⟨b, h1, h2⟩ => ⟨b, h1, isK_iff.1 h2⟩, fun ⟨b, h1, h2⟩ => ⟨b, h1, isK_iff.2 h2⟩⟩
theorem hasK_no {L : List BK} {v : Int} (h : hasK L v = false) : ∀ b ∈ L, b.n ≠ v := fun b hb e => by
  have : hasK L v = true := hasK_iff.2 ⟨b, hb, e⟩
  rw [h] at this; cases this
theorem apK_iff {m : Int} {L : List BK} : apK m L = true ↔ (∀ b ∈ L, 0 ≤ b.n ∧ b.n < m) ∧ (L.map BK.n).Nodup := by
  unfold apK inK
  rw [Bool.and_eq_true, List.all_eq_true, decide_eq_true_iff]
  simp only [decide_eq_true_iff]
theorem apK_nil (m : Int) : apK m [] = true := by rw [apK_iff]; exact ⟨fun b hb => (by cases hb), List.nodup_nil⟩
theorem take_bk {L : List BK} {k : Nat} (h : k < L.length) : L.take (k + 1) = L.take k ++ [nthBk L k] := by
  rw [List.take_add_one, List.getElem?_eq_getElem h, nthBk_get h]; rfl
theorem apK_step {m : Int} {L : List BK} {k : Nat} (hk : k < L.length) (h : apK m (L.take k) = true) (h1 : hasK (L.take k) (nthBk L k).n = false) (h2 : 0 ≤ (nthBk L k).n ∧ (nthBk L k).n < m) : apK m (L.take (k + 1)) = true := by
  rw [take_bk hk]
  rw [apK_iff] at h ⊢
  refine ⟨fun b hb => ?_, ?_⟩
  · rw [List.mem_append, List.mem_singleton] at hb
    rcases hb with hb | rfl
    · exact h.1 b hb
    · exact h2
  · rw [List.map_append, List.nodup_append]
    refine ⟨h.2, by simp, fun x hx y hy => ?_⟩
    obtain ⟨b, hb, rfl⟩ := List.mem_map.1 hx
    simp only [List.map_cons, List.map_nil, List.mem_singleton] at hy
    rw [hy]
    exact hasK_no h1 b hb
theorem apK_off {m : Int} {L : List BK} {k : Nat} (hk : k < L.length) (h : hasK (L.take k) (nthBk L k).n = true ∨ ¬ (0 ≤ (nthBk L k).n ∧ (nthBk L k).n < m)) : apK m L = false := by
  rw [Bool.eq_false_iff]
  intro ha
  rw [apK_iff] at ha
  rcases h with h | h
  · obtain ⟨b, hb, e⟩ := hasK_iff.1 h
    obtain ⟨i, hi, e2⟩ := mem_nthBk hb
    rw [List.length_take] at hi
    have e3 : L[i]'(by omega) = b := by rw [← e2, nthBk_get (by rw [List.length_take]; omega), List.getElem_take]
    have hn := (List.pairwise_iff_getElem.1 ha.2) i k (by simp; omega) (by simpa using hk) (by omega)
    rw [List.getElem_map, List.getElem_map, e3, ← nthBk_get hk] at hn
    exact hn e
  · exact h (ha.1 _ (nthBk_mem hk))
theorem atK_has {L : List BK} {v : Int} (h : hasK L v = true) : atK L v ∈ L ∧ (atK L v).n = v := by
  unfold atK
  cases hf : L.find? (isK v) with
  | none =>
    obtain ⟨b, hb, e⟩ := hasK_iff.1 h
    exact absurd (isK_iff.2 e) (List.find?_eq_none.1 hf b hb)
  | some b => exact ⟨List.mem_of_find?_eq_some hf, isK_iff.1 (List.find?_some hf)⟩
structure ConK (n : NN) (L : List BK) : Prop where
  check : checkN n = 0
  ne : L.length ≠ 0
  ap : apK n.nodes L = true
  link : ∀ b ∈ L, linkK n L b = true
theorem con_ok {n : NN} {L : List BK} (h : ConK n L) : conK n L = if L.any (looK n L) = true then 141 else 0 := by
  unfold conK
  rw [if_pos h.check, if_neg]
  rintro (e | e | e)
  · exact h.ne e
  · rw [h.ap] at e; cases e
  · rw [List.all_eq_true.2 h.link] at e; cases e
theorem con_not {n : NN} {L : List BK} (hc : checkN n = 0) (h : ¬ ConK n L) : conK n L = 140 := by
  unfold conK
  rw [if_pos hc, if_pos]
  by_cases h1 : L.length = 0
  · exact .inl h1
  · by_cases h2 : apK n.nodes L = true
    · refine .inr (.inr ?_)
      rw [Bool.eq_false_iff]
      exact fun e => h ⟨hc, h1, h2, List.all_eq_true.1 e⟩
    · exact .inr (.inl (Bool.eq_false_iff.2 h2))
theorem con_bad {n : NN} {L : List BK} (h : checkN n ≠ 0) : conK n L = checkN n := by unfold conK; rw [if_neg h]
theorem con_cases {n : NN} {L : List BK} (hc : checkN n = 0) : conK n L = 0 ∨ conK n L = 140 ∨ conK n L = 141 := by
  unfold conK
  rw [if_pos hc]
  split
  · exact .inr (.inl rfl)
  · split
    · exact .inr (.inr rfl)
    · exact .inl rfl
theorem limK_iff {n : NN} {b : BK} : limK n b = true ↔ 0 ≤ b.f ∧ b.f ≤ 4096 ∧ 0 ≤ b.a ∧ b.a < (n.arcs.length : Int) := by unfold limK; exact decide_eq_true_iff
structure LinkK (n : NN) (L : List BK) (b : BK) : Prop where
  f : 0 ≤ b.f ∧ b.f ≤ 4096
  a : 0 ≤ b.a ∧ b.a < (n.arcs.length : Int)
  t : (arcK n b).t = b.n
  has : hasK L (arcK n b).f = true
theorem linkK_iff {n : NN} {L : List BK} {b : BK} : linkK n L b = true ↔ LinkK n L b := by
  unfold linkK
  rw [Bool.and_eq_true, Bool.and_eq_true, limK_iff, decide_eq_true_iff]
  exact ⟨fun h => ⟨⟨h.1.1, h.1.2.1⟩, ⟨h.1.2.2.1, h.1.2.2.2⟩, h.2.1, h.2.2⟩, fun h => ⟨⟨h.f.1, h.f.2, h.a.1, h.a.2⟩, h.t, h.has⟩⟩
theorem LinkK.lt {n : NN} {L : List BK} {b : BK} (h : LinkK n L b) : b.a.toNat < n.arcs.length := by have := h.a; omega
/-! ### what follows -/
/-- A token more at the start of an arc. -/
def moreA (a : NA) : NA := ⟨a.f, a.t, a.g, a.k, a.s + 1⟩
def moreN (n : NN) (i : Nat) : NN := ⟨n.nodes, n.arcs.set i (moreA (nthNa n.arcs i))⟩
theorem nthNa_set {A : List NA} {i j : Nat} {x : NA} (hi : i < A.length) : nthNa (A.set i x) j = if j = i then x else nthNa A j := by
  unfold nthNa
  rw [List.getD_eq_getElem?_getD, List.getD_eq_getElem?_getD]
  by_cases e : j = i
  · subst e; rw [if_pos rfl, List.getElem?_set_self hi]; rfl
  · rw [if_neg e, List.getElem?_set_ne (Ne.symm e)]
theorem arcE_more {m : Int} {a : NA} (h : 0 ≤ a.s ∧ a.s < 256) : arcE m (moreA a) = arcE m a := by
  unfold arcE moreA
  simp only
  have e1 : ¬ (a.s < 0 ∨ 256 < a.s) := by omega
  have e2 : ¬ (a.s + 1 < 0 ∨ 256 < a.s + 1) := by omega
  rw [if_neg e1, if_neg e2]
theorem arcsE_set {m : Int} : ∀ {A : List NA} {i : Nat}, i < A.length → (0 ≤ (nthNa A i).s ∧ (nthNa A i).s < 256) → arcsE m (A.set i (moreA (nthNa A i))) = arcsE m A
  | [], i, h, _ => absurd h (Nat.not_lt_zero _)
  | a :: A, 0, _, hs => by
    show arcsE m (moreA a :: A) = _
    unfold arcsE
    rw [arcE_more (a := a) hs]
  | a :: A, i + 1, h, hs => by
    show arcsE m (a :: A.set i (moreA (nthNa A i))) = _
    unfold arcsE
    rw [arcsE_set (Nat.lt_of_succ_lt_succ h) hs]
theorem con_more {n : NN} {L : List BK} {i : Nat} (hi : i < n.arcs.length) (hs : 0 ≤ (nthNa n.arcs i).s ∧ (nthNa n.arcs i).s < 256) :
    (conK n L = 0 → conK (moreN n i) L = 0 ∨ conK (moreN n i) L = 141) ∧ (conK n L ≠ 0 → conK (moreN n i) L = conK n L) := by
  have hck : checkN (moreN n i) = checkN n := by
    unfold checkN moreN
    simp only [List.length_set]
    rw [arcsE_set hi hs]
  by_cases hc : checkN n = 0
  · have hc' : checkN (moreN n i) = 0 := hck.trans hc
    have hf : ∀ b, (arcK (moreN n i) b).f = (arcK n b).f := fun b => by
      unfold arcK moreN; simp only; rw [nthNa_set hi]; split
      · rename_i e; rw [e]; rfl
      · rfl
    have ht : ∀ b, (arcK (moreN n i) b).t = (arcK n b).t := fun b => by
      unfold arcK moreN; simp only; rw [nthNa_set hi]; split
      · rename_i e; rw [e]; rfl
      · rfl
    have hg : ∀ b, (arcK (moreN n i) b).g = (arcK n b).g := fun b => by
      unfold arcK moreN; simp only; rw [nthNa_set hi]; split
      · rename_i e; rw [e]; rfl
      · rfl
    have hk : ∀ b, (arcK (moreN n i) b).k = (arcK n b).k := fun b => by
      unfold arcK moreN; simp only; rw [nthNa_set hi]; split
      · rename_i e; rw [e]; rfl
      · rfl
    have hss : ∀ b, (arcK n b).s ≤ (arcK (moreN n i) b).s := fun b => by
      unfold arcK moreN; simp only; rw [nthNa_set hi]; split
      · rename_i e; rw [e]; show _ ≤ _ + 1; omega
      · exact Int.le_refl _
    have hlim : ∀ b, limK (moreN n i) b = limK n b := fun b => by unfold limK moreN; simp only [List.length_set]
    have hlk : ∀ b, linkK (moreN n i) L b = linkK n L b := fun b => by unfold linkK; rw [hlim, hf, ht]
    have hiff : ConK (moreN n i) L ↔ ConK n L :=
      ⟨fun c => ⟨hc, c.ne, c.ap, fun b hb => by rw [← hlk]; exact c.link b hb⟩, fun c => ⟨hc', c.ne, c.ap, fun b hb => by rw [hlk]; exact c.link b hb⟩⟩
    by_cases hC : ConK n L
    · have hC' := hiff.2 hC
      refine ⟨fun _ => ?_, fun hne => ?_⟩
      · rcases con_cases (L := L) hc' with e | e | e
        · exact .inl e
        · rw [con_ok hC'] at e; split at e <;> cases e
        · exact .inr e
      · rw [con_ok hC] at hne ⊢
        have hy : L.any (looK n L) = true := by
          cases hv : L.any (looK n L) with
          | true => rfl
          | false => rw [hv] at hne; exact absurd rfl hne
        rw [con_ok hC', if_pos hy, if_pos]
        obtain ⟨b, hb, e⟩ := List.any_eq_true.1 hy
        refine List.any_eq_true.2 ⟨b, hb, ?_⟩
        unfold looK at e ⊢
        rw [decide_eq_true_iff] at e ⊢
        rw [hk, hg, hf]
        have := hss b
        omega
    · rw [con_not hc hC, con_not hc' (fun c => hC (hiff.1 c))]
      exact ⟨fun e => (by cases e), fun _ => rfl⟩
  · rw [con_bad hc, con_bad (by rw [hck]; exact hc), hck]
    exact ⟨fun e => absurd e hc, fun _ => rfl⟩
end Go.Proofs.Ytafkmpfoojofhaa
