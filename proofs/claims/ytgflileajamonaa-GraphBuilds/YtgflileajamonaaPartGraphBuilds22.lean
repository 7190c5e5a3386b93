/- Texts of one chain, laid one behind the other. -/
import Derived.Test.YtgflileajamonaaPartGraphBuilds20
namespace Go.Proofs.Ytgflileajamonaa
open Go.ChangeShapes Go.WideShapes Go.ChangeAt Go.RowKit
def insN (g : GG) (i : Nat) : Nat := (ofS (nthA g.actors i).tag (nthA g.actors i).params).1.length
def outsN (g : GG) (i : Nat) : Nat := (ofS (nthA g.actors i).tag (nthA g.actors i).params).2.1.length
def namedB (g : GG) (na ni no : Nat) (x : List UInt8) : Bool := (g.actors.take na).any (fun a => a.name == x) || ((g.ins.take ni).any (fun p => p.name == x) || (g.outs.take no).any (fun p => p.name == x))
def outTk (g : GG) (ne no : Nat) (a p : Int) : Bool := (g.edges.take ne).any (fun e => e.f == a && e.fp == p) || (g.outs.take no).any (fun q => q.actor == a && q.port == p)
def inTk (g : GG) (ne ni : Nat) (a p : Int) : Bool := (g.edges.take ne).any (fun e => e.t == a && e.tp == p) || (g.ins.take ni).any (fun q => q.actor == a && q.port == p)
def endC (g : GG) (a p : Int) (n : Nat) (taken : Bool) : Int := if a < 0 ∨ (g.actors.length : Int) ≤ a then 84 else if p < 0 ∨ (n : Int) ≤ p then 85 else if taken = true then 86 else 0
def actorC (g : GG) (i : Nat) : Int := if nameB (nthA g.actors i).name = false then 82 else if namedB g i 0 0 (nthA g.actors i).name = true then 83 else (ofS (nthA g.actors i).tag (nthA g.actors i).params).2.2
def outEnd (g : GG) (ne no : Nat) (a p : Int) : Int := endC g a p (outsN g a.toNat) (outTk g ne no a p)
def inEnd (g : GG) (ne ni : Nat) (a p : Int) : Int := endC g a p (insN g a.toNat) (inTk g ne ni a p)
def edgeC (g : GG) (i : Nat) : Int × Nat :=
  if outEnd g i 0 (nthE g.edges i).f (nthE g.edges i).fp ≠ 0 then (outEnd g i 0 (nthE g.edges i).f (nthE g.edges i).fp, 1)
  else if inEnd g i 0 (nthE g.edges i).t (nthE g.edges i).tp ≠ 0 then (inEnd g i 0 (nthE g.edges i).t (nthE g.edges i).tp, 2)
  else if 256 < (nthE g.edges i).start.length then (88, 0) else (0, 0)
def inC (g : GG) (i : Nat) : Int × Nat := if nameB (nthP g.ins i).name = false then (82, 0) else if namedB g g.actors.length i 0 (nthP g.ins i).name = true then (83, 0) else (inEnd g g.edges.length i (nthP g.ins i).actor (nthP g.ins i).port, 2)
def outC (g : GG) (i : Nat) : Int × Nat := if nameB (nthP g.outs i).name = false then (82, 0) else if namedB g g.actors.length g.ins.length i (nthP g.outs i).name = true then (83, 0) else (outEnd g g.edges.length i (nthP g.outs i).actor (nthP g.outs i).port, 1)
def openB (g : GG) (i : Nat) : Bool := (List.range (insN g i)).any (fun p => !inTk g g.edges.length g.ins.length (i : Int) (p : Int)) || (List.range (outsN g i)).any (fun p => !outTk g g.edges.length g.outs.length (i : Int) (p : Int))
def openC (g : GG) (i : Nat) : Int × Nat := (if openB g i = true then 87 else 0, 0)
/-- The first of n, from the number i on, with which something is wrong. -/
def loopC : Nat → Nat → (Nat → Int × Nat) → Nat → FL
  | 0, _, _, _ => fl0
  | n + 1, i, f, k => if (f i).1 ≠ 0 then ⟨(f i).1, k, i, (f i).2⟩ else loopC n (i + 1) f k
def findS (g : GG) : FL :=
  if (headF g).code ≠ 0 then headF g else
  if (loopC g.actors.length 0 (fun i => (actorC g i, 0)) 1).code ≠ 0 then loopC g.actors.length 0 (fun i => (actorC g i, 0)) 1 else
  if (loopC g.edges.length 0 (edgeC g) 2).code ≠ 0 then loopC g.edges.length 0 (edgeC g) 2 else
  if (loopC g.ins.length 0 (inC g) 3).code ≠ 0 then loopC g.ins.length 0 (inC g) 3 else
  if (loopC g.outs.length 0 (outC g) 4).code ≠ 0 then loopC g.outs.length 0 (outC g) 4 else
  loopC g.actors.length 0 (openC g) 1
/-- What a ledger means: so many actors, edges, inputs, outputs have been gone through. -/
structure Means (g : GG) (s : LS) (na ne ni no : Nat) : Prop where
  ns : ∀ x, (0 < s.ns.count x) = (namedB g na ni no x = true)
  lI : s.I.length = na
  lO : s.O.length = na
  rI : ∀ a, a < na → (nthB s.I a).length = insN g a
  rO : ∀ a, a < na → (nthB s.O a).length = outsN g a
  bI : ∀ a p : Nat, a < na → p < insN g a → bitB s.I a p = inTk g ne ni (a : Int) (p : Int)
  bO : ∀ a p : Nat, a < na → p < outsN g a → bitB s.O a p = outTk g ne no (a : Int) (p : Int)
theorem means_start (g : GG) : Means g ⟨[], [], []⟩ 0 0 0 0 :=
  ⟨fun x => by simp [namedB], rfl, rfl, fun a h => absurd h (Nat.not_lt_zero _), fun a h => absurd h (Nat.not_lt_zero _), fun a p h => absurd h (Nat.not_lt_zero _), fun a p h => absurd h (Nat.not_lt_zero _)⟩
theorem take_A {As : List GA} {i : Nat} (h : i < As.length) : As.take (i + 1) = As.take i ++ [nthA As i] := by
  rw [List.take_add_one, List.getElem?_eq_getElem h]; unfold nthA; rw [List.getD_eq_getElem?_getD, List.getElem?_eq_getElem h]; rfl
theorem take_E {As : List GE} {i : Nat} (h : i < As.length) : As.take (i + 1) = As.take i ++ [nthE As i] := by
  rw [List.take_add_one, List.getElem?_eq_getElem h]; unfold nthE; rw [List.getD_eq_getElem?_getD, List.getElem?_eq_getElem h]; rfl
theorem take_P {As : List GP} {i : Nat} (h : i < As.length) : As.take (i + 1) = As.take i ++ [nthP As i] := by
  rw [List.take_add_one, List.getElem?_eq_getElem h]; unfold nthP; rw [List.getD_eq_getElem?_getD, List.getElem?_eq_getElem h]; rfl
theorem named_A {g : GG} {i ni no : Nat} (h : i < g.actors.length) (x : List UInt8) : (namedB g (i + 1) ni no x = true) = (namedB g i ni no x = true ∨ (nthA g.actors i).name = x) := by
  unfold namedB
  rw [take_A h, List.any_append]
  simp only [List.any_cons, List.any_nil, Bool.or_false, Bool.or_eq_true, beq_iff_eq, eq_iff_iff]
  constructor
  · rintro ((h | h) | h)
    · exact .inl (.inl h)
    · exact .inr h
    · exact .inl (.inr h)
  · rintro ((h | h) | h)
    · exact .inl (.inl h)
    · exact .inr h
    · exact .inl (.inr h)
theorem named_I {g : GG} {i na no : Nat} (h : i < g.ins.length) (x : List UInt8) : (namedB g na (i + 1) no x = true) = (namedB g na i no x = true ∨ (nthP g.ins i).name = x) := by
  unfold namedB
  rw [take_P h, List.any_append]
  simp only [List.any_cons, List.any_nil, Bool.or_false, Bool.or_eq_true, beq_iff_eq, eq_iff_iff]
  constructor
  · rintro (h | ((h | h) | h))
    · exact .inl (.inl h)
    · exact .inl (.inr (.inl h))
    · exact .inr h
    · exact .inl (.inr (.inr h))
  · rintro ((h | (h | h)) | h)
    · exact .inl h
    · exact .inr (.inl (.inl h))
    · exact .inr (.inr h)
    · exact .inr (.inl (.inr h))
theorem named_O {g : GG} {i na ni : Nat} (h : i < g.outs.length) (x : List UInt8) : (namedB g na ni (i + 1) x = true) = (namedB g na ni i x = true ∨ (nthP g.outs i).name = x) := by
  unfold namedB
  rw [take_P h, List.any_append]
  simp only [List.any_cons, List.any_nil, Bool.or_false, Bool.or_eq_true, beq_iff_eq, eq_iff_iff]
  constructor
  · rintro (h | (h | (h | h)))
    · exact .inl (.inl h)
    · exact .inl (.inr (.inl h))
    · exact .inl (.inr (.inr h))
    · exact .inr h
  · rintro ((h | (h | h)) | h)
    · exact .inl h
    · exact .inr (.inl h)
    · exact .inr (.inr (.inl h))
    · exact .inr (.inr (.inr h))
theorem outTk_E {g : GG} {i no : Nat} (h : i < g.edges.length) (a p : Int) : outTk g (i + 1) no a p = (outTk g i no a p || ((nthE g.edges i).f == a && (nthE g.edges i).fp == p)) := by
  unfold outTk
  rw [take_E h, List.any_append]
  simp only [List.any_cons, List.any_nil, Bool.or_false]
  generalize (g.edges.take i).any _ = x
  generalize (g.outs.take no).any _ = y
  generalize (_ && _) = z
  cases x <;> cases y <;> cases z <;> rfl
theorem inTk_E {g : GG} {i no : Nat} (h : i < g.edges.length) (a p : Int) : inTk g (i + 1) no a p = (inTk g i no a p || ((nthE g.edges i).t == a && (nthE g.edges i).tp == p)) := by
  unfold inTk
  rw [take_E h, List.any_append]
  simp only [List.any_cons, List.any_nil, Bool.or_false]
  generalize (g.edges.take i).any _ = x
  generalize (g.ins.take no).any _ = y
  generalize (_ && _) = z
  cases x <;> cases y <;> cases z <;> rfl
theorem outTk_P {g : GG} {i ne : Nat} (h : i < g.outs.length) (a p : Int) : outTk g ne (i + 1) a p = (outTk g ne i a p || ((nthP g.outs i).actor == a && (nthP g.outs i).port == p)) := by
  unfold outTk
  rw [take_P h, List.any_append]
  simp only [List.any_cons, List.any_nil, Bool.or_false, Bool.or_assoc]
theorem inTk_P {g : GG} {i ne : Nat} (h : i < g.ins.length) (a p : Int) : inTk g ne (i + 1) a p = (inTk g ne i a p || ((nthP g.ins i).actor == a && (nthP g.ins i).port == p)) := by
  unfold inTk
  rw [take_P h, List.any_append]
  simp only [List.any_cons, List.any_nil, Bool.or_false, Bool.or_assoc]
theorem bit_set {R : List (List Bool)} {a p : Nat} (ha : a < R.length) (hp : p < (nthB R a).length) (b q : Nat) : bitB (setB R a p) b q = (bitB R b q || (decide (a = b) && decide (p = q))) := by
  unfold bitB
  rw [nthB_set b ha]
  by_cases e : b = a
  · subst e
    rw [if_pos rfl, decide_eq_true rfl, Bool.true_and]
    by_cases e2 : q = p
    · subst e2
      rw [List.getD_eq_getElem?_getD, List.getElem?_set_self hp, decide_eq_true rfl, Bool.or_true]
      rfl
    · rw [List.getD_eq_getElem?_getD, List.getElem?_set_ne (Ne.symm e2), decide_eq_false (Ne.symm e2), Bool.or_false, List.getD_eq_getElem?_getD]
  · rw [if_neg e, decide_eq_false (Ne.symm e), Bool.false_and, Bool.or_false]
theorem set_rows {R : List (List Bool)} {a p : Nat} (ha : a < R.length) (b : Nat) : (nthB (setB R a p) b).length = (nthB R b).length := by
  rw [nthB_set b ha]
  by_cases e : b = a
  · subst e; rw [if_pos rfl, List.length_set]
  · rw [if_neg e]
theorem bit_new {R : List (List Bool)} {n b q : Nat} (hb : b < R.length + 1) : bitB (R ++ [List.replicate n false]) b q = if b < R.length then bitB R b q else false := by
  unfold bitB
  by_cases h : b < R.length
  · rw [if_pos h, nthB_left h]
  · rw [if_neg h, show b = R.length by omega, nthB_end, List.getD_eq_getElem?_getD]
    by_cases h2 : q < n
    · rw [List.getElem?_replicate, if_pos h2]; rfl
    · rw [List.getElem?_replicate, if_neg h2]; rfl
/-- No one has said so far that a port of a later actor is taken. -/
theorem tk_none (g : GG) (a p : Int) : inTk g 0 0 a p = false ∧ outTk g 0 0 a p = false := by
  unfold inTk outTk; simp
theorem actors_find (g : GG) : ∀ (n i : Nat) (s : LS), n + i = g.actors.length → Means g s i 0 0 0 →
    (actorsF (g.actors.drop i) i s).1 = loopC n i (fun i => (actorC g i, 0)) 1 ∧ ((actorsF (g.actors.drop i) i s).1.code = 0 → Means g (actorsF (g.actors.drop i) i s).2 g.actors.length 0 0 0)
  | 0, i, s, hn, hm => by
    have e : g.actors.drop i = [] := List.drop_eq_nil_of_le (by omega)
    rw [e]
    have e2 : i = g.actors.length := by omega
    subst e2
    exact ⟨rfl, fun _ => hm⟩
  | n + 1, i, s, hn, hm => by
    have hi : i < g.actors.length := by omega
    rw [drop_A hi]
    have e : actorsF (nthA g.actors i :: g.actors.drop (i + 1)) i s = if (enterS s.ns (nthA g.actors i).name).1 = 0 then (if (openS ⟨(enterS s.ns (nthA g.actors i).name).2, s.I, s.O⟩ (nthA g.actors i).tag (nthA g.actors i).params).1 = 0 then actorsF (g.actors.drop (i + 1)) (i + 1) (openS ⟨(enterS s.ns (nthA g.actors i).name).2, s.I, s.O⟩ (nthA g.actors i).tag (nthA g.actors i).params).2 else (⟨(openS ⟨(enterS s.ns (nthA g.actors i).name).2, s.I, s.O⟩ (nthA g.actors i).tag (nthA g.actors i).params).1, 1, i, 0⟩, s)) else (⟨(enterS s.ns (nthA g.actors i).name).1, 1, i, 0⟩, s) := rfl
    have l : loopC (n + 1) i (fun i => (actorC g i, 0)) 1 = if actorC g i ≠ 0 then ⟨actorC g i, 1, i, 0⟩ else loopC n (i + 1) (fun i => (actorC g i, 0)) 1 := rfl
    have ht : (ofS (nthA g.actors i).tag (nthA g.actors i).params).1.length = insN g i := rfl
    have ht2 : (ofS (nthA g.actors i).tag (nthA g.actors i).params).2.1.length = outsN g i := rfl
    rw [e, l]
    by_cases h1 : nameB (nthA g.actors i).name = true
    · have hns := hm.ns (nthA g.actors i).name
      by_cases h2 : 0 < s.ns.count (nthA g.actors i).name
      · have h3 : namedB g i 0 0 (nthA g.actors i).name = true := by rw [← hns]; exact h2
        have ae : enterS s.ns (nthA g.actors i).name = (83, (nthA g.actors i).name :: s.ns) := by unfold enterS; rw [if_pos h1, if_pos h2]
        have ac : actorC g i = 83 := by unfold actorC; rw [if_neg (by rw [h1]; decide), if_pos h3]
        rw [ae, ac]
        exact ⟨rfl, fun h => absurd h (by show ¬ (83 : Int) = 0; decide)⟩
      · have h3 : ¬ namedB g i 0 0 (nthA g.actors i).name = true := by rw [← hns]; exact h2
        have ae : enterS s.ns (nthA g.actors i).name = (0, (nthA g.actors i).name :: s.ns) := by unfold enterS; rw [if_pos h1, if_neg h2]
        have ac : actorC g i = (ofS (nthA g.actors i).tag (nthA g.actors i).params).2.2 := by unfold actorC; rw [if_neg (by rw [h1]; decide), if_neg h3]
        rw [ae, ac, if_pos rfl]
        by_cases h4 : (ofS (nthA g.actors i).tag (nthA g.actors i).params).2.2 = 0
        · have ao : openS ⟨(nthA g.actors i).name :: s.ns, s.I, s.O⟩ (nthA g.actors i).tag (nthA g.actors i).params = (0, ⟨(nthA g.actors i).name :: s.ns, s.I ++ [List.replicate (insN g i) false], s.O ++ [List.replicate (outsN g i) false]⟩) := by unfold openS; rw [if_pos h4]; rfl
          rw [ao, if_pos rfl, h4, if_neg (by decide)]
          refine actors_find g n (i + 1) _ (by omega) ⟨fun x => ?_, ?_, ?_, fun a ha => ?_, fun a ha => ?_, fun a p ha hp => ?_, fun a p ha hp => ?_⟩
          · rw [named_A hi, ← hm.ns x, List.count_cons]
            by_cases e : (nthA g.actors i).name = x
            · simp [e]
            · simp [e]
          · simp [hm.lI]
          · simp [hm.lO]
          · by_cases h : a < i
            · rw [nthB_left (by rw [hm.lI]; exact h)]; exact hm.rI a h
            · have e : a = s.I.length := by rw [hm.lI]; omega
              rw [e, nthB_end, List.length_replicate, ← hm.lI]
          · by_cases h : a < i
            · rw [nthB_left (by rw [hm.lO]; exact h)]; exact hm.rO a h
            · have e : a = s.O.length := by rw [hm.lO]; omega
              rw [e, nthB_end, List.length_replicate, ← hm.lO]
          · rw [bit_new (by rw [hm.lI]; exact ha), hm.lI]
            by_cases h : a < i
            · rw [if_pos h]; exact hm.bI a p h hp
            · rw [if_neg h, (tk_none g _ _).1]
          · rw [bit_new (by rw [hm.lO]; exact ha), hm.lO]
            by_cases h : a < i
            · rw [if_pos h]; exact hm.bO a p h hp
            · rw [if_neg h, (tk_none g _ _).2]
        · have ao : openS ⟨(nthA g.actors i).name :: s.ns, s.I, s.O⟩ (nthA g.actors i).tag (nthA g.actors i).params = ((ofS (nthA g.actors i).tag (nthA g.actors i).params).2.2, ⟨(nthA g.actors i).name :: s.ns, s.I, s.O⟩) := by unfold openS; rw [if_neg h4]
          rw [ao, if_neg h4, if_pos h4]
          exact ⟨rfl, fun h => absurd h h4⟩
    · have h1' : nameB (nthA g.actors i).name = false := by simpa using h1
      have ae : enterS s.ns (nthA g.actors i).name = (82, s.ns) := by unfold enterS; rw [if_neg h1]
      have ac : actorC g i = 82 := by unfold actorC; rw [if_pos h1']
      rw [ae, ac]
      exact ⟨rfl, fun h => absurd h (by show ¬ (82 : Int) = 0; decide)⟩
theorem take_out {g : GG} {s : LS} {ne ni no : Nat} (h : Means g s g.actors.length ne ni no) (a p : Int) : takeC s.O a p = outEnd g ne no a p := by
  unfold takeC outEnd endC
  rw [h.lO]
  by_cases h1 : a < 0 ∨ (g.actors.length : Int) ≤ a
  · rw [if_pos h1, if_pos h1]
  · rw [if_neg h1, if_neg h1, h.rO a.toNat (by omega)]
    by_cases h2 : p < 0 ∨ (outsN g a.toNat : Int) ≤ p
    · rw [if_pos h2, if_pos h2]
    · rw [if_neg h2, if_neg h2, h.bO a.toNat p.toNat (by omega) (by omega), Int.toNat_of_nonneg (by omega), Int.toNat_of_nonneg (by omega)]
theorem take_in {g : GG} {s : LS} {ne ni no : Nat} (h : Means g s g.actors.length ne ni no) (a p : Int) : takeC s.I a p = inEnd g ne ni a p := by
  unfold takeC inEnd endC
  rw [h.lI]
  by_cases h1 : a < 0 ∨ (g.actors.length : Int) ≤ a
  · rw [if_pos h1, if_pos h1]
  · rw [if_neg h1, if_neg h1, h.rI a.toNat (by omega)]
    by_cases h2 : p < 0 ∨ (insN g a.toNat : Int) ≤ p
    · rw [if_pos h2, if_pos h2]
    · rw [if_neg h2, if_neg h2, h.bI a.toNat p.toNat (by omega) (by omega), Int.toNat_of_nonneg (by omega), Int.toNat_of_nonneg (by omega)]
theorem end_ok {g : GG} {a p : Int} {n : Nat} {t : Bool} (h : endC g a p n t = 0) : 0 ≤ a ∧ a < (g.actors.length : Int) ∧ 0 ≤ p ∧ p < (n : Int) ∧ t = false := by
  unfold endC at h
  by_cases h1 : a < 0 ∨ (g.actors.length : Int) ≤ a
  · rw [if_pos h1] at h; exact absurd h (by decide)
  · rw [if_neg h1] at h
    by_cases h2 : p < 0 ∨ (n : Int) ≤ p
    · rw [if_pos h2] at h; exact absurd h (by decide)
    · rw [if_neg h2] at h
      cases t
      · exact ⟨by omega, by omega, by omega, by omega, rfl⟩
      · rw [if_pos rfl] at h; exact absurd h (by decide)
theorem nat_eq {a : Int} {b : Nat} (h : 0 ≤ a) : decide (a.toNat = b) = (a == (b : Int)) := by
  by_cases e : a = (b : Int)
  · subst e; simp
  · have h2 : ¬ a.toNat = b := by omega
    simp [e, h2]
/-- What a table says when a port was taken. -/
theorem bits_take {R : List (List Bool)} {a p : Int} (h : takeC R a p = 0) (b q : Nat) : bitB (takeR R a p) b q = (bitB R b q || (a == (b : Int) && p == (q : Int))) := by
  unfold takeR
  rw [if_pos h]
  unfold takeC at h
  by_cases h1 : a < 0 ∨ (R.length : Int) ≤ a
  · rw [if_pos h1] at h; exact absurd h (by decide)
  · rw [if_neg h1] at h
    by_cases h2 : p < 0 ∨ ((nthB R a.toNat).length : Int) ≤ p
    · rw [if_pos h2] at h; exact absurd h (by decide)
    · rw [bit_set (by omega) (by omega), nat_eq (by omega), nat_eq (by omega)]
theorem rows_take {R : List (List Bool)} {a p : Int} (h : takeC R a p = 0) (b : Nat) : (nthB (takeR R a p) b).length = (nthB R b).length := by
  unfold takeR
  rw [if_pos h]
  unfold takeC at h
  by_cases h1 : a < 0 ∨ (R.length : Int) ≤ a
  · rw [if_pos h1] at h; exact absurd h (by decide)
  · exact set_rows (by omega) b
theorem edges_find (g : GG) : ∀ (n i : Nat) (s : LS), n + i = g.edges.length → Means g s g.actors.length i 0 0 →
    (edgesF (g.edges.drop i) i s).1 = loopC n i (edgeC g) 2 ∧ ((edgesF (g.edges.drop i) i s).1.code = 0 → Means g (edgesF (g.edges.drop i) i s).2 g.actors.length g.edges.length 0 0)
  | 0, i, s, hn, hm => by
    have e : g.edges.drop i = [] := List.drop_eq_nil_of_le (by omega)
    rw [e]
    have e2 : i = g.edges.length := by omega
    subst e2
    exact ⟨rfl, fun _ => hm⟩
  | n + 1, i, s, hn, hm => by
    have hi : i < g.edges.length := by omega
    rw [drop_E hi]
    obtain ⟨x, hx⟩ : ∃ x, nthE g.edges i = x := ⟨_, rfl⟩
    have e : edgesF (nthE g.edges i :: g.edges.drop (i + 1)) i s = if takeC s.O x.f x.fp = 0 then (if takeC s.I x.t x.tp = 0 then (if 256 < x.start.length then (⟨88, 2, i, 0⟩, s) else edgesF (g.edges.drop (i + 1)) (i + 1) ⟨s.ns, takeR s.I x.t x.tp, takeR s.O x.f x.fp⟩) else (⟨takeC s.I x.t x.tp, 2, i, 2⟩, s)) else (⟨takeC s.O x.f x.fp, 2, i, 1⟩, s) := by subst hx; rfl
    have l : loopC (n + 1) i (edgeC g) 2 = if (edgeC g i).1 ≠ 0 then ⟨(edgeC g i).1, 2, i, (edgeC g i).2⟩ else loopC n (i + 1) (edgeC g) 2 := rfl
    have q1 := take_out hm x.f x.fp
    have q2 := take_in hm x.t x.tp
    have le : edgeC g i = if takeC s.O x.f x.fp ≠ 0 then (takeC s.O x.f x.fp, 1) else if takeC s.I x.t x.tp ≠ 0 then (takeC s.I x.t x.tp, 2) else if 256 < x.start.length then (88, 0) else (0, 0) := by
      unfold edgeC
      rw [hx, q1, q2]
    rw [e, l]
    by_cases h1 : takeC s.O x.f x.fp = 0
    · rw [if_pos h1]
      have n1 : ¬ takeC s.O x.f x.fp ≠ 0 := fun h => h h1
      by_cases h2 : takeC s.I x.t x.tp = 0
      · rw [if_pos h2]
        have n2 : ¬ takeC s.I x.t x.tp ≠ 0 := fun h => h h2
        by_cases h3 : 256 < x.start.length
        · have ec : edgeC g i = (88, 0) := by rw [le, if_neg n1, if_neg n2, if_pos h3]
          rw [if_pos h3, ec]
          exact ⟨rfl, fun h => absurd h (by show ¬ (88 : Int) = 0; decide)⟩
        · have ec : edgeC g i = (0, 0) := by rw [le, if_neg n1, if_neg n2, if_neg h3]
          rw [if_neg h3, ec, if_neg (by decide)]
          refine edges_find g n (i + 1) _ (by omega) ⟨fun y => hm.ns y, ?_, ?_, fun a ha => ?_, fun a ha => ?_, fun a p ha hp => ?_, fun a p ha hp => ?_⟩
          · show (takeR _ _ _).length = _
            rw [take_len]; exact hm.lI
          · show (takeR _ _ _).length = _
            rw [take_len]; exact hm.lO
          · show (nthB (takeR _ _ _) a).length = _
            rw [rows_take h2]; exact hm.rI a ha
          · show (nthB (takeR _ _ _) a).length = _
            rw [rows_take h1]; exact hm.rO a ha
          · show bitB (takeR _ _ _) a p = _
            rw [bits_take h2, inTk_E hi, hm.bI a p ha hp, hx]
          · show bitB (takeR _ _ _) a p = _
            rw [bits_take h1, outTk_E hi, hm.bO a p ha hp, hx]
      · have ec : edgeC g i = (takeC s.I x.t x.tp, 2) := by rw [le, if_neg n1, if_pos h2]
        rw [if_neg h2, ec, if_pos h2]
        exact ⟨rfl, fun h => absurd h h2⟩
    · have ec : edgeC g i = (takeC s.O x.f x.fp, 1) := by rw [le, if_pos h1]
      rw [if_neg h1, ec, if_pos h1]
      exact ⟨rfl, fun h => absurd h h1⟩
theorem count_new {ns : List (List UInt8)} {x y : List UInt8} {P Q : Prop} (h : (0 < ns.count y) = P) (hQ : Q = (P ∨ x = y)) : (0 < (x :: ns).count y) = Q := by
  rw [hQ, ← h, List.count_cons]
  by_cases e : x = y
  · simp [e]
  · simp [e]
theorem ins_find (g : GG) : ∀ (n i : Nat) (s : LS), n + i = g.ins.length → Means g s g.actors.length g.edges.length i 0 →
    (insF (g.ins.drop i) i s).1 = loopC n i (inC g) 3 ∧ ((insF (g.ins.drop i) i s).1.code = 0 → Means g (insF (g.ins.drop i) i s).2 g.actors.length g.edges.length g.ins.length 0)
  | 0, i, s, hn, hm => by
    have e : g.ins.drop i = [] := List.drop_eq_nil_of_le (by omega)
    rw [e]
    have e2 : i = g.ins.length := by omega
    subst e2
    exact ⟨rfl, fun _ => hm⟩
  | n + 1, i, s, hn, hm => by
    have hi : i < g.ins.length := by omega
    rw [drop_P hi]
    obtain ⟨x, hx⟩ : ∃ x, nthP g.ins i = x := ⟨_, rfl⟩
    have e : insF (nthP g.ins i :: g.ins.drop (i + 1)) i s = if (enterS s.ns x.name).1 = 0 then (if takeC s.I x.actor x.port = 0 then insF (g.ins.drop (i + 1)) (i + 1) ⟨(enterS s.ns x.name).2, takeR s.I x.actor x.port, s.O⟩ else (⟨takeC s.I x.actor x.port, 3, i, 2⟩, s)) else (⟨(enterS s.ns x.name).1, 3, i, 0⟩, s) := by subst hx; rfl
    have l : loopC (n + 1) i (inC g) 3 = if (inC g i).1 ≠ 0 then ⟨(inC g i).1, 3, i, (inC g i).2⟩ else loopC n (i + 1) (inC g) 3 := rfl
    have q2 := take_in hm x.actor x.port
    have le : inC g i = if nameB x.name = false then (82, 0) else if namedB g g.actors.length i 0 x.name = true then (83, 0) else (takeC s.I x.actor x.port, 2) := by
      unfold inC
      rw [hx, q2]
    rw [e, l, le]
    by_cases h1 : nameB x.name = true
    · have hns := hm.ns x.name
      rw [if_neg (by rw [h1]; decide : ¬ nameB x.name = false)]
      by_cases h2 : 0 < s.ns.count x.name
      · have h3 : namedB g g.actors.length i 0 x.name = true := by rw [← hns]; exact h2
        have ae : enterS s.ns x.name = (83, x.name :: s.ns) := by unfold enterS; rw [if_pos h1, if_pos h2]
        rw [ae, if_pos h3]
        exact ⟨rfl, fun h => absurd h (by show ¬ (83 : Int) = 0; decide)⟩
      · have h3 : ¬ namedB g g.actors.length i 0 x.name = true := by rw [← hns]; exact h2
        have ae : enterS s.ns x.name = (0, x.name :: s.ns) := by unfold enterS; rw [if_pos h1, if_neg h2]
        rw [ae, if_neg h3, if_pos rfl]
        by_cases h4 : takeC s.I x.actor x.port = 0
        · rw [if_pos h4, if_neg (by show ¬ takeC s.I x.actor x.port ≠ 0; rw [h4]; decide)]
          refine ins_find g n (i + 1) _ (by omega) ⟨fun y => ?_, ?_, hm.lO, fun a ha => ?_, hm.rO, fun a p ha hp => ?_, hm.bO⟩
          · exact count_new (hm.ns y) (by rw [named_I hi, hx])
          · show (takeR _ _ _).length = _
            rw [take_len]; exact hm.lI
          · show (nthB (takeR _ _ _) a).length = _
            rw [rows_take h4]; exact hm.rI a ha
          · show bitB (takeR _ _ _) a p = _
            rw [bits_take h4, inTk_P hi, hm.bI a p ha hp, hx]
        · rw [if_neg h4, if_pos h4]
          exact ⟨rfl, fun h => absurd h h4⟩
    · have h1' : nameB x.name = false := by simpa using h1
      have ae : enterS s.ns x.name = (82, s.ns) := by unfold enterS; rw [if_neg h1]
      rw [ae, if_pos h1']
      exact ⟨rfl, fun h => absurd h (by show ¬ (82 : Int) = 0; decide)⟩
theorem outs_find (g : GG) : ∀ (n i : Nat) (s : LS), n + i = g.outs.length → Means g s g.actors.length g.edges.length g.ins.length i →
    (outsF (g.outs.drop i) i s).1 = loopC n i (outC g) 4 ∧ ((outsF (g.outs.drop i) i s).1.code = 0 → Means g (outsF (g.outs.drop i) i s).2 g.actors.length g.edges.length g.ins.length g.outs.length)
  | 0, i, s, hn, hm => by
    have e : g.outs.drop i = [] := List.drop_eq_nil_of_le (by omega)
    rw [e]
    have e2 : i = g.outs.length := by omega
    subst e2
    exact ⟨rfl, fun _ => hm⟩
  | n + 1, i, s, hn, hm => by
    have hi : i < g.outs.length := by omega
    rw [drop_P hi]
    obtain ⟨x, hx⟩ : ∃ x, nthP g.outs i = x := ⟨_, rfl⟩
    have e : outsF (nthP g.outs i :: g.outs.drop (i + 1)) i s = if (enterS s.ns x.name).1 = 0 then (if takeC s.O x.actor x.port = 0 then outsF (g.outs.drop (i + 1)) (i + 1) ⟨(enterS s.ns x.name).2, s.I, takeR s.O x.actor x.port⟩ else (⟨takeC s.O x.actor x.port, 4, i, 1⟩, s)) else (⟨(enterS s.ns x.name).1, 4, i, 0⟩, s) := by subst hx; rfl
    have l : loopC (n + 1) i (outC g) 4 = if (outC g i).1 ≠ 0 then ⟨(outC g i).1, 4, i, (outC g i).2⟩ else loopC n (i + 1) (outC g) 4 := rfl
    have q2 := take_out hm x.actor x.port
    have le : outC g i = if nameB x.name = false then (82, 0) else if namedB g g.actors.length g.ins.length i x.name = true then (83, 0) else (takeC s.O x.actor x.port, 1) := by
      unfold outC
      rw [hx, q2]
    rw [e, l, le]
    by_cases h1 : nameB x.name = true
    · have hns := hm.ns x.name
      rw [if_neg (by rw [h1]; decide : ¬ nameB x.name = false)]
      by_cases h2 : 0 < s.ns.count x.name
      · have h3 : namedB g g.actors.length g.ins.length i x.name = true := by rw [← hns]; exact h2
        have ae : enterS s.ns x.name = (83, x.name :: s.ns) := by unfold enterS; rw [if_pos h1, if_pos h2]
        rw [ae, if_pos h3]
        exact ⟨rfl, fun h => absurd h (by show ¬ (83 : Int) = 0; decide)⟩
      · have h3 : ¬ namedB g g.actors.length g.ins.length i x.name = true := by rw [← hns]; exact h2
        have ae : enterS s.ns x.name = (0, x.name :: s.ns) := by unfold enterS; rw [if_pos h1, if_neg h2]
        rw [ae, if_neg h3, if_pos rfl]
        by_cases h4 : takeC s.O x.actor x.port = 0
        · rw [if_pos h4, if_neg (by show ¬ takeC s.O x.actor x.port ≠ 0; rw [h4]; decide)]
          refine outs_find g n (i + 1) _ (by omega) ⟨fun y => ?_, hm.lI, ?_, hm.rI, fun a ha => ?_, hm.bI, fun a p ha hp => ?_⟩
          · exact count_new (hm.ns y) (by rw [named_O hi, hx])
          · show (takeR _ _ _).length = _
            rw [take_len]; exact hm.lO
          · show (nthB (takeR _ _ _) a).length = _
            rw [rows_take h4]; exact hm.rO a ha
          · show bitB (takeR _ _ _) a p = _
            rw [bits_take h4, outTk_P hi, hm.bO a p ha hp, hx]
        · rw [if_neg h4, if_pos h4]
          exact ⟨rfl, fun h => absurd h h4⟩
    · have h1' : nameB x.name = false := by simpa using h1
      have ae : enterS s.ns x.name = (82, s.ns) := by unfold enterS; rw [if_neg h1]
      rw [ae, if_pos h1']
      exact ⟨rfl, fun h => absurd h (by show ¬ (82 : Int) = 0; decide)⟩
theorem gap_any_of {l : List Bool} {n : Nat} {f : Nat → Bool} (hl : l.length = n) (h : ∀ p, p < n → l.getD p false = f p) : l.contains false = (List.range n).any (fun p => !f p) := by
  rw [Bool.eq_iff_iff, List.contains_iff_mem, List.any_eq_true]
  constructor
  · intro hm
    obtain ⟨k, hk, e⟩ := List.mem_iff_getElem.1 hm
    refine ⟨k, List.mem_range.2 (by omega), ?_⟩
    rw [← h k (by omega), List.getD_eq_getElem?_getD, List.getElem?_eq_getElem hk, e]
    rfl
  · rintro ⟨k, hk, e⟩
    have hk' := List.mem_range.1 hk
    have h2 := h k hk'
    rw [List.getD_eq_getElem?_getD, List.getElem?_eq_getElem (by omega)] at h2
    have : f k = false := by simpa using e
    rw [this] at h2
    exact List.mem_iff_getElem.2 ⟨k, by omega, h2⟩
theorem open_find (g : GG) {s : LS} (hm : Means g s g.actors.length g.edges.length g.ins.length g.outs.length) : ∀ (n i : Nat), n + i = g.actors.length → openF s.I s.O n i = loopC n i (openC g) 1
  | 0, _, _ => rfl
  | n + 1, i, hn => by
    have hi : i < g.actors.length := by omega
    have e1 : gapB s.I i = (List.range (insN g i)).any (fun p => !inTk g g.edges.length g.ins.length (i : Int) (p : Int)) := gap_any_of (hm.rI i hi) (fun p hp => hm.bI i p hi hp)
    have e2 : gapB s.O i = (List.range (outsN g i)).any (fun p => !outTk g g.edges.length g.outs.length (i : Int) (p : Int)) := gap_any_of (hm.rO i hi) (fun p hp => hm.bO i p hi hp)
    have e : openF s.I s.O (n + 1) i = if gapB s.I i = true ∨ gapB s.O i = true then ⟨87, 1, i, 0⟩ else openF s.I s.O n (i + 1) := rfl
    have l : loopC (n + 1) i (openC g) 1 = if (openC g i).1 ≠ 0 then ⟨(openC g i).1, 1, i, (openC g i).2⟩ else loopC n (i + 1) (openC g) 1 := rfl
    rw [e, l]
    unfold openC openB
    rw [e1, e2]
    generalize List.any (List.range (insN g i)) _ = x
    generalize List.any (List.range (outsN g i)) _ = y
    have r := open_find g hm n (i + 1) (by omega)
    unfold openC openB at r
    cases x <;> cases y <;> simp [r]
theorem first_find (g : GG) : firstF g = findS g := by
  have hA := actors_find g g.actors.length 0 ⟨[], [], []⟩ (by omega) (means_start g)
  rw [List.drop_zero] at hA
  unfold firstF findS
  by_cases h0 : (headF g).code ≠ 0
  · rw [if_pos h0, if_pos h0]
  rw [if_neg h0, if_neg h0]
  simp only
  rw [hA.1]
  by_cases h1 : (loopC g.actors.length 0 (fun i => (actorC g i, 0)) 1).code ≠ 0
  · rw [if_pos h1, if_pos h1]
  rw [if_neg h1, if_neg h1]
  have hE := edges_find g g.edges.length 0 _ (by omega) (hA.2 (by rw [hA.1]; simpa using h1))
  rw [List.drop_zero] at hE
  rw [hE.1]
  by_cases h2 : (loopC g.edges.length 0 (edgeC g) 2).code ≠ 0
  · rw [if_pos h2, if_pos h2]
  rw [if_neg h2, if_neg h2]
  have hI := ins_find g g.ins.length 0 _ (by omega) (hE.2 (by rw [hE.1]; simpa using h2))
  rw [List.drop_zero] at hI
  rw [hI.1]
  by_cases h3 : (loopC g.ins.length 0 (inC g) 3).code ≠ 0
  · rw [if_pos h3, if_pos h3]
  rw [if_neg h3, if_neg h3]
  have hO := outs_find g g.outs.length 0 _ (by omega) (hI.2 (by rw [hI.1]; simpa using h3))
  rw [List.drop_zero] at hO
  rw [hO.1]
  by_cases h4 : (loopC g.outs.length 0 (outC g) 4).code ≠ 0
  · rw [if_pos h4, if_pos h4]
  rw [if_neg h4, if_neg h4]
  exact open_find g (hO.2 (by rw [hO.1]; simpa using h4)) g.actors.length 0 (by omega)
theorem loop_zero {f : Nat → Int × Nat} {k : Nat} : ∀ (n i : Nat), (loopC n i f k).code = 0 → ∀ j, i ≤ j → j < i + n → (f j).1 = 0
  | 0, i, _, j, h1, h2 => by omega
  | n + 1, i, h, j, h1, h2 => by
    have e : loopC (n + 1) i f k = if (f i).1 ≠ 0 then ⟨(f i).1, k, i, (f i).2⟩ else loopC n (i + 1) f k := rfl
    rw [e] at h
    by_cases h0 : (f i).1 ≠ 0
    · rw [if_pos h0] at h; exact absurd h h0
    · rw [if_neg h0] at h
      by_cases hj : j = i
      · subst hj; simpa using h0
      · exact loop_zero n (i + 1) h j (by omega) (by omega)
theorem zero_loop {f : Nat → Int × Nat} {k : Nat} : ∀ (n i : Nat), (∀ j, i ≤ j → j < i + n → (f j).1 = 0) → (loopC n i f k).code = 0
  | 0, _, _ => rfl
  | n + 1, i, h => by
    have e : loopC (n + 1) i f k = if (f i).1 ≠ 0 then ⟨(f i).1, k, i, (f i).2⟩ else loopC n (i + 1) f k := rfl
    rw [e, if_neg (by rw [h i (Nat.le_refl _) (by omega)]; decide)]
    exact zero_loop n (i + 1) fun j h1 h2 => h j (by omega) (by omega)
/-- The first one, of a loop that stops. -/
theorem loop_stop {f : Nat → Int × Nat} {k : Nat} : ∀ (n i : Nat) (j : Nat), i ≤ j → j < i + n → (f j).1 ≠ 0 → (∀ m, i ≤ m → m < j → (f m).1 = 0) → loopC n i f k = ⟨(f j).1, k, j, (f j).2⟩
  | 0, i, j, h1, h2, _, _ => by omega
  | n + 1, i, j, h1, h2, h3, h4 => by
    have e : loopC (n + 1) i f k = if (f i).1 ≠ 0 then ⟨(f i).1, k, i, (f i).2⟩ else loopC n (i + 1) f k := rfl
    rw [e]
    by_cases hj : j = i
    · subst hj; rw [if_pos h3]
    · rw [if_neg (by rw [h4 i (Nat.le_refl _) (by omega)]; decide)]
      exact loop_stop n (i + 1) j (by omega) (by omega) h3 fun m q1 q2 => h4 m (by omega) q2
structure SoundG (g : GG) : Prop where
  head : (headF g).code = 0
  acts : ∀ i, i < g.actors.length → actorC g i = 0
  edges : ∀ i, i < g.edges.length → (edgeC g i).1 = 0
  ins : ∀ i, i < g.ins.length → (inC g i).1 = 0
  outs : ∀ i, i < g.outs.length → (outC g i).1 = 0
  opens : ∀ i, i < g.actors.length → openB g i = false
theorem sound_iff (g : GG) : (firstF g).code = 0 ↔ SoundG g := by
  rw [first_find]
  unfold findS
  constructor
  · intro h
    by_cases h0 : (headF g).code ≠ 0
    · rw [if_pos h0] at h; exact absurd h h0
    rw [if_neg h0] at h
    by_cases h1 : (loopC g.actors.length 0 (fun i => (actorC g i, 0)) 1).code ≠ 0
    · rw [if_pos h1] at h; exact absurd h h1
    rw [if_neg h1] at h
    by_cases h2 : (loopC g.edges.length 0 (edgeC g) 2).code ≠ 0
    · rw [if_pos h2] at h; exact absurd h h2
    rw [if_neg h2] at h
    by_cases h3 : (loopC g.ins.length 0 (inC g) 3).code ≠ 0
    · rw [if_pos h3] at h; exact absurd h h3
    rw [if_neg h3] at h
    by_cases h4 : (loopC g.outs.length 0 (outC g) 4).code ≠ 0
    · rw [if_pos h4] at h; exact absurd h h4
    rw [if_neg h4] at h
    refine ⟨by simpa using h0, fun i hi => loop_zero _ _ (by simpa using h1) i (Nat.zero_le _) (by omega), fun i hi => loop_zero _ _ (by simpa using h2) i (Nat.zero_le _) (by omega), fun i hi => loop_zero _ _ (by simpa using h3) i (Nat.zero_le _) (by omega), fun i hi => loop_zero _ _ (by simpa using h4) i (Nat.zero_le _) (by omega), fun i hi => ?_⟩
    have := loop_zero _ _ h i (Nat.zero_le _) (by omega)
    unfold openC at this
    cases hb : openB g i
    · rfl
    · rw [hb] at this; exact absurd this (by decide)
  · intro h
    have e1 := zero_loop (f := fun i => (actorC g i, 0)) (k := 1) g.actors.length 0 fun j _ hj => h.acts j (by omega)
    have e2 := zero_loop (f := edgeC g) (k := 2) g.edges.length 0 fun j _ hj => h.edges j (by omega)
    have e3 := zero_loop (f := inC g) (k := 3) g.ins.length 0 fun j _ hj => h.ins j (by omega)
    have e4 := zero_loop (f := outC g) (k := 4) g.outs.length 0 fun j _ hj => h.outs j (by omega)
    rw [if_neg (by rw [h.head]; decide), if_neg (by rw [e1]; decide), if_neg (by rw [e2]; decide), if_neg (by rw [e3]; decide), if_neg (by rw [e4]; decide)]
    refine zero_loop _ _ fun j _ hj => ?_
    unfold openC
    rw [h.opens j (by omega)]
    rfl
theorem head_ok {g : GG} (h : (headF g).code = 0) : nameB g.name = true ∧ 0 < g.actors.length ∧ g.actors.length ≤ 32 ∧ g.edges.length ≤ 96 ∧ g.ins.length ≤ 16 ∧ g.outs.length ≤ 16 := by
  unfold headF at h
  split at h
  · exact absurd h (by decide)
  · rename_i h1
    split at h
    · exact absurd h (by decide)
    · split at h
      · exact absurd h (by decide)
      · split at h
        · exact absurd h (by decide)
        · split at h
          · exact absurd h (by decide)
          · split at h
            · exact absurd h (by decide)
            · exact ⟨by simpa using h1, by omega, by omega, by omega, by omega, by omega⟩
theorem actor_ok {g : GG} {i : Nat} (h : actorC g i = 0) : nameB (nthA g.actors i).name = true ∧ namedB g i 0 0 (nthA g.actors i).name = false ∧ (ofS (nthA g.actors i).tag (nthA g.actors i).params).2.2 = 0 := by
  unfold actorC at h
  split at h
  · exact absurd h (by decide)
  · rename_i h1
    split at h
    · exact absurd h (by decide)
    · rename_i h2
      exact ⟨by simpa using h1, by simpa using h2, h⟩
/-- What is known of an edge of a sound graph. -/
structure EdgeOk (g : GG) (e : GE) : Prop where
  f0 : 0 ≤ e.f
  f1 : e.f < (g.actors.length : Int)
  fp0 : 0 ≤ e.fp
  fp1 : e.fp < (outsN g e.f.toNat : Int)
  t0 : 0 ≤ e.t
  t1 : e.t < (g.actors.length : Int)
  tp0 : 0 ≤ e.tp
  tp1 : e.tp < (insN g e.t.toNat : Int)
  st : e.start.length ≤ 256
theorem edge_ok {g : GG} {i : Nat} (h : (edgeC g i).1 = 0) : EdgeOk g (nthE g.edges i) ∧ outTk g i 0 (nthE g.edges i).f (nthE g.edges i).fp = false ∧ inTk g i 0 (nthE g.edges i).t (nthE g.edges i).tp = false := by
  unfold edgeC at h
  split at h
  · rename_i h1; exact absurd h h1
  · rename_i h1
    split at h
    · rename_i h2; exact absurd h h2
    · rename_i h2
      split at h
      · exact absurd h (by decide)
      · rename_i h3
        have e1 := end_ok (show endC _ _ _ _ _ = 0 by simpa [outEnd] using h1)
        have e2 := end_ok (show endC _ _ _ _ _ = 0 by simpa [inEnd] using h2)
        exact ⟨⟨e1.1, e1.2.1, e1.2.2.1, e1.2.2.2.1, e2.1, e2.2.1, e2.2.2.1, e2.2.2.2.1, by omega⟩, e1.2.2.2.2, e2.2.2.2.2⟩
theorem in_ok {g : GG} {i : Nat} (h : (inC g i).1 = 0) : nameB (nthP g.ins i).name = true ∧ namedB g g.actors.length i 0 (nthP g.ins i).name = false ∧ (0 ≤ (nthP g.ins i).actor ∧ (nthP g.ins i).actor < (g.actors.length : Int) ∧ 0 ≤ (nthP g.ins i).port ∧ (nthP g.ins i).port < (insN g (nthP g.ins i).actor.toNat : Int)) ∧ inTk g g.edges.length i (nthP g.ins i).actor (nthP g.ins i).port = false := by
  unfold inC at h
  split at h
  · exact absurd h (by decide)
  · rename_i h1
    split at h
    · exact absurd h (by decide)
    · rename_i h2
      have e := end_ok (show endC _ _ _ _ _ = 0 from h)
      exact ⟨by simpa using h1, by simpa using h2, ⟨e.1, e.2.1, e.2.2.1, e.2.2.2.1⟩, e.2.2.2.2⟩
theorem out_ok {g : GG} {i : Nat} (h : (outC g i).1 = 0) : nameB (nthP g.outs i).name = true ∧ namedB g g.actors.length g.ins.length i (nthP g.outs i).name = false ∧ (0 ≤ (nthP g.outs i).actor ∧ (nthP g.outs i).actor < (g.actors.length : Int) ∧ 0 ≤ (nthP g.outs i).port ∧ (nthP g.outs i).port < (outsN g (nthP g.outs i).actor.toNat : Int)) ∧ outTk g g.edges.length i (nthP g.outs i).actor (nthP g.outs i).port = false := by
  unfold outC at h
  split at h
  · exact absurd h (by decide)
  · rename_i h1
    split at h
    · exact absurd h (by decide)
    · rename_i h2
      have e := end_ok (show endC _ _ _ _ _ = 0 from h)
      exact ⟨by simpa using h1, by simpa using h2, ⟨e.1, e.2.1, e.2.2.1, e.2.2.2.1⟩, e.2.2.2.2⟩
end Go.Proofs.Ytgflileajamonaa
namespace Go.Proofs.Ytgflileajamonaa
open Go.RowKit
theorem snocG_nodup {α : Type} {l : List α} {x : α} (h : l.Nodup) (hx : x ∉ l) : (l ++ [x]).Nodup := by
  rw [List.nodup_append]
  refine ⟨h, List.nodup_cons.2 ⟨(fun q => by cases q), List.nodup_nil⟩, fun a ha b hb => ?_⟩
  rw [List.mem_singleton.1 hb]
  exact fun e => hx (e ▸ ha)
theorem snocG_iff {α : Type} {L : Nat → List α} {x : Nat → α} : ∀ (n : Nat), (∀ i, i < n → L (i + 1) = L i ++ [x i]) → ((L n).Nodup ↔ (L 0).Nodup ∧ ∀ i, i < n → x i ∉ L i)
  | 0, _ => ⟨fun h => ⟨h, fun i hi => absurd hi (Nat.not_lt_zero _)⟩, fun h => h.1⟩
  | n + 1, h => by
    have ih := snocG_iff (L := L) (x := x) n fun i hi => h i (by omega)
    rw [h n (Nat.lt_succ_self _)]
    constructor
    · intro q
      rw [List.nodup_append] at q
      have q0 := ih.1 q.1
      refine ⟨q0.1, fun i hi => ?_⟩
      by_cases e : i = n
      · subst e
        exact fun hm => q.2.2 _ hm _ (List.mem_singleton.2 rfl) rfl
      · exact q0.2 i (by omega)
    · intro q
      exact snocG_nodup (ih.2 ⟨q.1, fun i hi => q.2 i (by omega)⟩) (q.2 n (Nat.lt_succ_self _))
def nsG (g : GG) (na ni no : Nat) : List (List UInt8) := (g.actors.take na).map (fun a => a.name) ++ ((g.ins.take ni).map (fun p => p.name) ++ (g.outs.take no).map (fun p => p.name))
theorem nsG_mem (g : GG) (na ni no : Nat) (x : List UInt8) : namedB g na ni no x = true ↔ x ∈ nsG g na ni no := by
  unfold namedB nsG
  simp only [Bool.or_eq_true, List.any_eq_true, List.mem_append, List.mem_map, beq_iff_eq]
theorem nsG_no {g : GG} {na ni no : Nat} {x : List UInt8} : namedB g na ni no x = false ↔ x ∉ nsG g na ni no := by
  rw [← nsG_mem, Bool.not_eq_true]
theorem nsG_A {g : GG} {i : Nat} (h : i < g.actors.length) : nsG g (i + 1) 0 0 = nsG g i 0 0 ++ [(nthA g.actors i).name] := by
  unfold nsG
  rw [take_A h, List.map_append]
  simp
end Go.Proofs.Ytgflileajamonaa
