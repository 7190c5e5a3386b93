/- Texts of one chain. -/
import Derived.Test.YtgoconkleicmkaaPartQ
import Derived.Test.YtgoconkleicmkaaPartGraphBuilds20
namespace Go.Proofs.Ytgoconkleicmkaa
open Go.ChangeShapes Go.WideShapes Go.ChangeAt Go.RowKit
def uL (g : GG) (i : Nat) : Nat := (sE (zI g.A i).tag (zI g.A i).params).1.length
def wT (g : GG) (i : Nat) : Nat := (sE (zI g.A i).tag (zI g.A i).params).2.1.length
def yX (g : GG) (na ni no : Nat) (x : List UInt8) : Bool := (g.A.take na).any (fun a => a.name == x) || ((g.ins.take ni).any (fun p => p.name == x) || (g.outs.take no).any (fun p => p.name == x))
def xI (g : GG) (ne no : Nat) (a p : Int) : Bool := (g.E.take ne).any (fun e => e.f == a && e.fp == p) || (g.outs.take no).any (fun q => q.actor == a && q.port == p)
def vS (g : GG) (ne ni : Nat) (a p : Int) : Bool := (g.E.take ne).any (fun e => e.t == a && e.tp == p) || (g.ins.take ni).any (fun q => q.actor == a && q.port == p)
def oP (g : GG) (a p : Int) (n : Nat) (taken : Bool) : Int := if a < 0 \/ (g.A.length : Int) <= a then 84 else if p < 0 \/ (n : Int) <= p then 85 else if taken = true then 86 else 0
def yR (g : GG) (i : Nat) : Int := if yM (zI g.A i).name = false then 82 else if yX g i 0 0 (zI g.A i).name = true then 83 else (sE (zI g.A i).tag (zI g.A i).params).2.2
def vM (g : GG) (ne no : Nat) (a p : Int) : Int := oP g a p (wT g a.toNat) (xI g ne no a p)
def tM (g : GG) (ne ni : Nat) (a p : Int) : Int := oP g a p (uL g a.toNat) (vS g ne ni a p)
def xW (g : GG) (i : Nat) : Int × Nat :=
 if vM g i 0 (yU g.E i).f (yU g.E i).fp ≠ 0 then (vM g i 0 (yU g.E i).f (yU g.E i).fp, 1)
 else if tM g i 0 (yU g.E i).t (yU g.E i).tp ≠ 0 then (tM g i 0 (yU g.E i).t (yU g.E i).tp, 2)
 else if 256 < (yU g.E i).start.length then (88, 0) else (0, 0)
def qG (g : GG) (i : Nat) : Int × Nat := if yM (zF g.ins i).name = false then (82, 0) else if yX g g.A.length i 0 (zF g.ins i).name = true then (83, 0) else (tM g g.E.length i (zF g.ins i).actor (zF g.ins i).port, 2)
def wA (g : GG) (i : Nat) : Int × Nat := if yM (zF g.outs i).name = false then (82, 0) else if yX g g.A.length g.ins.length i (zF g.outs i).name = true then (83, 0) else (vM g g.E.length i (zF g.outs i).actor (zF g.outs i).port, 1)
def tZ (g : GG) (i : Nat) : Bool := (List.range (uL g i)).any (fun p => !vS g g.E.length g.ins.length (i : Int) (p : Int)) || (List.range (wT g i)).any (fun p => !xI g g.E.length g.outs.length (i : Int) (p : Int))
def wF (g : GG) (i : Nat) : Int × Nat := (if tZ g i = true then 87 else 0, 0)
def yY : Nat -> Nat -> (Nat -> Int × Nat) -> Nat -> FL
 | 0, _, _, _ => bC
 | n + 1, i, f, k => if (f i).1 ≠ 0 then ⟨(f i).1, k, i, (f i).2⟩ else yY n (i + 1) f k
def xQ (g : GG) : FL :=
 if (xD g).code ≠ 0 then xD g else
 if (yY g.A.length 0 (fun i => (yR g i, 0)) 1).code ≠ 0 then yY g.A.length 0 (fun i => (yR g i, 0)) 1 else
 if (yY g.E.length 0 (xW g) 2).code ≠ 0 then yY g.E.length 0 (xW g) 2 else
 if (yY g.ins.length 0 (qG g) 3).code ≠ 0 then yY g.ins.length 0 (qG g) 3 else
 if (yY g.outs.length 0 (wA g) 4).code ≠ 0 then yY g.outs.length 0 (wA g) 4 else
 yY g.A.length 0 (wF g) 1
structure sK (g : GG) (s : LS) (na ne ni no : Nat) : Prop where
 ns : ∀ x, (0 < s.ns.count x) = (yX g na ni no x = true)
 lI : s.I.length = na
 lO : s.O.length = na
 rI : ∀ a, a < na -> (xV s.I a).length = uL g a
 rO : ∀ a, a < na -> (xV s.O a).length = wT g a
 bI : ∀ a p : Nat, a < na -> p < uL g a -> sV s.I a p = vS g ne ni (a : Int) (p : Int)
 bO : ∀ a p : Nat, a < na -> p < wT g a -> sV s.O a p = xI g ne no (a : Int) (p : Int)
theorem gZ (g : GG) : sK g ⟨[], [], []⟩ 0 0 0 0 :=
 ⟨fun x => by simp [yX], rfl, rfl, fun a h => absurd h (Nat.not_lt_zero _), fun a h => absurd h (Nat.not_lt_zero _), fun a p h => absurd h (Nat.not_lt_zero _), fun a p h => absurd h (Nat.not_lt_zero _)⟩
theorem fD {As : List GA} {i : Nat} (h : i < As.length) : As.take (i + 1) = As.take i ++ [zI As i] := by
 rw [List.take_add_one, List.getElem?_eq_getElem h]; unfold zI; rw [List.getD_eq_getElem?_getD, List.getElem?_eq_getElem h]; rfl
theorem fC {As : List GE} {i : Nat} (h : i < As.length) : As.take (i + 1) = As.take i ++ [yU As i] := by
 rw [List.take_add_one, List.getElem?_eq_getElem h]; unfold yU; rw [List.getD_eq_getElem?_getD, List.getElem?_eq_getElem h]; rfl
theorem oO {As : List GP} {i : Nat} (h : i < As.length) : As.take (i + 1) = As.take i ++ [zF As i] := by
 rw [List.take_add_one, List.getElem?_eq_getElem h]; unfold zF; rw [List.getD_eq_getElem?_getD, List.getElem?_eq_getElem h]; rfl
theorem WN {g : GG} {i ni no : Nat} (h : i < g.A.length) (x : List UInt8) : (yX g (i + 1) ni no x = true) = (yX g i ni no x = true \/ (zI g.A i).name = x) := by
 unfold yX
 rw [fD h, List.any_append]
 simp only [List.any_cons, List.any_nil, Bool.or_false, Bool.or_eq_true, beq_iff_eq, eq_iff_iff]
 constructor
 ·rintro ((h | h) | h)
  ·exact .inl (.inl h)
  ·exact .inr h
  exact .inl (.inr h)
 rintro ((h | h) | h)
 ·exact .inl (.inl h)
 ·exact .inr h
 exact .inl (.inr h)
theorem WM {g : GG} {i na no : Nat} (h : i < g.ins.length) (x : List UInt8) : (yX g na (i + 1) no x = true) = (yX g na i no x = true \/ (zF g.ins i).name = x) := by
 unfold yX
 rw [oO h, List.any_append]
 simp only [List.any_cons, List.any_nil, Bool.or_false, Bool.or_eq_true, beq_iff_eq, eq_iff_iff]
 constructor
 ·rintro (h | ((h | h) | h))
  ·exact .inl (.inl h)
  ·exact .inl (.inr (.inl h))
  ·exact .inr h
  exact .inl (.inr (.inr h))
 rintro ((h | (h | h)) | h)
 ·exact .inl h
 ·exact .inr (.inl (.inl h))
 ·exact .inr (.inr h)
 exact .inr (.inl (.inr h))
theorem WL {g : GG} {i na ni : Nat} (h : i < g.outs.length) (x : List UInt8) : (yX g na ni (i + 1) x = true) = (yX g na ni i x = true \/ (zF g.outs i).name = x) := by
 unfold yX
 rw [oO h, List.any_append]
 simp only [List.any_cons, List.any_nil, Bool.or_false, Bool.or_eq_true, beq_iff_eq, eq_iff_iff]
 constructor
 ·rintro (h | (h | (h | h)))
  ·exact .inl (.inl h)
  ·exact .inl (.inr (.inl h))
  ·exact .inl (.inr (.inr h))
  exact .inr h
 rintro ((h | (h | h)) | h)
 ·exact .inl h
 ·exact .inr (.inl h)
 ·exact .inr (.inr (.inl h))
 exact .inr (.inr (.inr h))
theorem WK {g : GG} {i no : Nat} (h : i < g.E.length) (a p : Int) : xI g (i + 1) no a p = (xI g i no a p || ((yU g.E i).f == a && (yU g.E i).fp == p)) := by
 unfold xI
 rw [fC h, List.any_append]
 simp only [List.any_cons, List.any_nil, Bool.or_false]
 generalize (g.E.take i).any _ = x
 generalize (g.outs.take no).any _ = y
 generalize (_ && _) = z
 cases x <;> cases y <;> cases z <;> rfl
theorem UE {g : GG} {i no : Nat} (h : i < g.E.length) (a p : Int) : vS g (i + 1) no a p = (vS g i no a p || ((yU g.E i).t == a && (yU g.E i).tp == p)) := by
 unfold vS
 rw [fC h, List.any_append]
 simp only [List.any_cons, List.any_nil, Bool.or_false]
 generalize (g.E.take i).any _ = x
 generalize (g.ins.take no).any _ = y
 generalize (_ && _) = z
 cases x <;> cases y <;> cases z <;> rfl
theorem WJ {g : GG} {i ne : Nat} (h : i < g.outs.length) (a p : Int) : xI g ne (i + 1) a p = (xI g ne i a p || ((zF g.outs i).actor == a && (zF g.outs i).port == p)) := by
 unfold xI
 rw [oO h, List.any_append]
 simp only [List.any_cons, List.any_nil, Bool.or_false, Bool.or_assoc]
theorem UD {g : GG} {i ne : Nat} (h : i < g.ins.length) (a p : Int) : vS g ne (i + 1) a p = (vS g ne i a p || ((zF g.ins i).actor == a && (zF g.ins i).port == p)) := by
 unfold vS
 rw [oO h, List.any_append]
 simp only [List.any_cons, List.any_nil, Bool.or_false, Bool.or_assoc]
theorem WI {R : List (List Bool)} {a p : Nat} (ha : a < R.length) (hp : p < (xV R a).length) (b q : Nat) : sV (mL R a p) b q = (sV R b q || (decide (a = b) && decide (p = q))) := by
 unfold sV
 rw [sB b ha]
 by_cases e : b = a
 ·subst e
  rw [if_pos rfl, decide_eq_true rfl, Bool.true_and]
  by_cases e2 : q = p
  ·subst e2
   rw [List.getD_eq_getElem?_getD, List.getElem?_set_self hp, decide_eq_true rfl, Bool.or_true]
   rfl
  rw [List.getD_eq_getElem?_getD, List.getElem?_set_ne (Ne.symm e2), decide_eq_false (Ne.symm e2), Bool.or_false, List.getD_eq_getElem?_getD]
 rw [if_neg e, decide_eq_false (Ne.symm e), Bool.false_and, Bool.or_false]
theorem ZU {R : List (List Bool)} {a p : Nat} (ha : a < R.length) (b : Nat) : (xV (mL R a p) b).length = (xV R b).length := by
 rw [sB b ha]
 by_cases e : b = a
 ·subst e; rw [if_pos rfl, List.length_set]
 rw [if_neg e]
theorem dT {R : List (List Bool)} {n b q : Nat} (hb : b < R.length + 1) : sV (R ++ [List.replicate n false]) b q = if b < R.length then sV R b q else false := by
 unfold sV
 by_cases h : b < R.length
 ·rw [if_pos h, uT h]
 rw [if_neg h, show b = R.length by omega, tP, List.getD_eq_getElem?_getD]
 by_cases h2 : q < n
 ·rw [List.getElem?_replicate, if_pos h2]; rfl
 rw [List.getElem?_replicate, if_neg h2]; rfl
theorem dS (g : GG) (a p : Int) : vS g 0 0 a p = false /\ xI g 0 0 a p = false := by
 unfold vS xI; simp
theorem nZ (g : GG) : ∀ (n i : Nat) (s : LS), n + i = g.A.length -> sK g s i 0 0 0 ->
 (xO (g.A.drop i) i s).1 = yY n i (fun i => (yR g i, 0)) 1 /\ ((xO (g.A.drop i) i s).1.code = 0 -> sK g (xO (g.A.drop i) i s).2 g.A.length 0 0 0)
 | 0, i, s, hn, hm => by
  have e : g.A.drop i = [] := List.drop_eq_nil_of_le (by omega)
  rw [e]
  have e2 : i = g.A.length := by omega
  subst e2
  exact ⟨rfl, fun _ => hm⟩
 | n + 1, i, s, hn, hm => by
  have hi : i < g.A.length := by omega
  rw [ZX hi]
  have e : xO (zI g.A i :: g.A.drop (i + 1)) i s = if (zL s.ns (zI g.A i).name).1 = 0 then (if (xR ⟨(zL s.ns (zI g.A i).name).2, s.I, s.O⟩ (zI g.A i).tag (zI g.A i).params).1 = 0 then xO (g.A.drop (i + 1)) (i + 1) (xR ⟨(zL s.ns (zI g.A i).name).2, s.I, s.O⟩ (zI g.A i).tag (zI g.A i).params).2 else (⟨(xR ⟨(zL s.ns (zI g.A i).name).2, s.I, s.O⟩ (zI g.A i).tag (zI g.A i).params).1, 1, i, 0⟩, s)) else (⟨(zL s.ns (zI g.A i).name).1, 1, i, 0⟩, s) := rfl
  have l : yY (n + 1) i (fun i => (yR g i, 0)) 1 = if yR g i ≠ 0 then ⟨yR g i, 1, i, 0⟩ else yY n (i + 1) (fun i => (yR g i, 0)) 1 := rfl
  have ht : (sE (zI g.A i).tag (zI g.A i).params).1.length = uL g i := rfl
  have ht2 : (sE (zI g.A i).tag (zI g.A i).params).2.1.length = wT g i := rfl
  rw [e, l]
  by_cases h1 : yM (zI g.A i).name = true
  ·have hns := hm.ns (zI g.A i).name
   by_cases h2 : 0 < s.ns.count (zI g.A i).name
   ·have h3 : yX g i 0 0 (zI g.A i).name = true := by rw [<- hns]; exact h2
    have ae : zL s.ns (zI g.A i).name = (83, (zI g.A i).name :: s.ns) := by unfold zL; rw [if_pos h1, if_pos h2]
    have ac : yR g i = 83 := by unfold yR; rw [if_neg (by rw [h1]; decide), if_pos h3]
    rw [ae, ac]
    exact ⟨rfl, fun h => absurd h (by show ¬ (83 : Int) = 0; decide)⟩
   have h3 : ¬ yX g i 0 0 (zI g.A i).name = true := by rw [<- hns]; exact h2
   have ae : zL s.ns (zI g.A i).name = (0, (zI g.A i).name :: s.ns) := by unfold zL; rw [if_pos h1, if_neg h2]
   have ac : yR g i = (sE (zI g.A i).tag (zI g.A i).params).2.2 := by unfold yR; rw [if_neg (by rw [h1]; decide), if_neg h3]
   rw [ae, ac, if_pos rfl]
   by_cases h4 : (sE (zI g.A i).tag (zI g.A i).params).2.2 = 0
   ·have ao : xR ⟨(zI g.A i).name :: s.ns, s.I, s.O⟩ (zI g.A i).tag (zI g.A i).params = (0, ⟨(zI g.A i).name :: s.ns, s.I ++ [List.replicate (uL g i) false], s.O ++ [List.replicate (wT g i) false]⟩) := by unfold xR; rw [if_pos h4]; rfl
    rw [ao, if_pos rfl, h4, if_neg (by decide)]
    refine nZ g n (i + 1) _ (by omega) ⟨fun x => ?_, ?_, ?_, fun a ha => ?_, fun a ha => ?_, fun a p ha hp => ?_, fun a p ha hp => ?_⟩
    ·rw [WN hi, <- hm.ns x, List.count_cons]
     by_cases e : (zI g.A i).name = x
     ·simp [e]
     simp [e]
    ·simp [hm.lI]
    ·simp [hm.lO]
    ·by_cases h : a < i
     ·rw [uT (by rw [hm.lI]; exact h)]; exact hm.rI a h
     have e : a = s.I.length := by rw [hm.lI]; omega
     rw [e, tP, List.length_replicate, <- hm.lI]
    ·by_cases h : a < i
     ·rw [uT (by rw [hm.lO]; exact h)]; exact hm.rO a h
     have e : a = s.O.length := by rw [hm.lO]; omega
     rw [e, tP, List.length_replicate, <- hm.lO]
    ·rw [dT (by rw [hm.lI]; exact ha), hm.lI]
     by_cases h : a < i
     ·rw [if_pos h]; exact hm.bI a p h hp
     rw [if_neg h, (dS g _ _).1]
    rw [dT (by rw [hm.lO]; exact ha), hm.lO]
    by_cases h : a < i
    ·rw [if_pos h]; exact hm.bO a p h hp
    rw [if_neg h, (dS g _ _).2]
   have ao : xR ⟨(zI g.A i).name :: s.ns, s.I, s.O⟩ (zI g.A i).tag (zI g.A i).params = ((sE (zI g.A i).tag (zI g.A i).params).2.2, ⟨(zI g.A i).name :: s.ns, s.I, s.O⟩) := by unfold xR; rw [if_neg h4]
   rw [ao, if_neg h4, if_pos h4]
   exact ⟨rfl, fun h => absurd h h4⟩
  have h1' : yM (zI g.A i).name = false := by simpa using h1
  have ae : zL s.ns (zI g.A i).name = (82, s.ns) := by unfold zL; rw [if_neg h1]
  have ac : yR g i = 82 := by unfold yR; rw [if_pos h1']
  rw [ae, ac]
  exact ⟨rfl, fun h => absurd h (by show ¬ (82 : Int) = 0; decide)⟩
theorem gY {g : GG} {s : LS} {ne ni no : Nat} (h : sK g s g.A.length ne ni no) (a p : Int) : zE s.O a p = vM g ne no a p := by
 unfold zE vM oP
 rw [h.lO]
 by_cases h1 : a < 0 \/ (g.A.length : Int) <= a
 ·rw [if_pos h1, if_pos h1]
 rw [if_neg h1, if_neg h1, h.rO a.toNat (by omega)]
 by_cases h2 : p < 0 \/ (wT g a.toNat : Int) <= p
 ·rw [if_pos h2, if_pos h2]
 rw [if_neg h2, if_neg h2, h.bO a.toNat p.toNat (by omega) (by omega), Int.toNat_of_nonneg (by omega), Int.toNat_of_nonneg (by omega)]
theorem dR {g : GG} {s : LS} {ne ni no : Nat} (h : sK g s g.A.length ne ni no) (a p : Int) : zE s.I a p = tM g ne ni a p := by
 unfold zE tM oP
 rw [h.lI]
 by_cases h1 : a < 0 \/ (g.A.length : Int) <= a
 ·rw [if_pos h1, if_pos h1]
 rw [if_neg h1, if_neg h1, h.rI a.toNat (by omega)]
 by_cases h2 : p < 0 \/ (uL g a.toNat : Int) <= p
 ·rw [if_pos h2, if_pos h2]
 rw [if_neg h2, if_neg h2, h.bI a.toNat p.toNat (by omega) (by omega), Int.toNat_of_nonneg (by omega), Int.toNat_of_nonneg (by omega)]
theorem jJ {g : GG} {a p : Int} {n : Nat} {t : Bool} (h : oP g a p n t = 0) : 0 <= a /\ a < (g.A.length : Int) /\ 0 <= p /\ p < (n : Int) /\ t = false := by
 unfold oP at h
 by_cases h1 : a < 0 \/ (g.A.length : Int) <= a
 ·rw [if_pos h1] at h; exact qD h
 rw [if_neg h1] at h
 by_cases h2 : p < 0 \/ (n : Int) <= p
 ·rw [if_pos h2] at h; exact qD h
 rw [if_neg h2] at h
 cases t
 ·exact ⟨by omega, by omega, by omega, by omega, rfl⟩
 rw [if_pos rfl] at h; exact qD h
theorem ZT {a : Int} {b : Nat} (h : 0 <= a) : decide (a.toNat = b) = (a == (b : Int)) := by
 by_cases e : a = (b : Int)
 ·subst e; simp
 have h2 : ¬ a.toNat = b := by omega
 simp [e, h2]
theorem rL {R : List (List Bool)} {a p : Int} (h : zE R a p = 0) (b q : Nat) : sV (yK R a p) b q = (sV R b q || (a == (b : Int) && p == (q : Int))) := by
 unfold yK
 rw [if_pos h]
 unfold zE at h
 by_cases h1 : a < 0 \/ (R.length : Int) <= a
 ·rw [if_pos h1] at h; exact qD h
 rw [if_neg h1] at h
 by_cases h2 : p < 0 \/ ((xV R a.toNat).length : Int) <= p
 ·rw [if_pos h2] at h; exact qD h
 rw [WI (by omega) (by omega), ZT (by omega), ZT (by omega)]
theorem rK {R : List (List Bool)} {a p : Int} (h : zE R a p = 0) (b : Nat) : (xV (yK R a p) b).length = (xV R b).length := by
 unfold yK
 rw [if_pos h]
 unfold zE at h
 by_cases h1 : a < 0 \/ (R.length : Int) <= a
 ·rw [if_pos h1] at h; exact qD h
 exact ZU (by omega) b
theorem mH (g : GG) : ∀ (n i : Nat) (s : LS), n + i = g.E.length -> sK g s g.A.length i 0 0 ->
 (wY (g.E.drop i) i s).1 = yY n i (xW g) 2 /\ ((wY (g.E.drop i) i s).1.code = 0 -> sK g (wY (g.E.drop i) i s).2 g.A.length g.E.length 0 0)
 | 0, i, s, hn, hm => by
  have e : g.E.drop i = [] := List.drop_eq_nil_of_le (by omega)
  rw [e]
  have e2 : i = g.E.length := by omega
  subst e2
  exact ⟨rfl, fun _ => hm⟩
 | n + 1, i, s, hn, hm => by
  have hi : i < g.E.length := by omega
  rw [ZW hi]
  obtain ⟨x, hx⟩ : ∃ x, yU g.E i = x := ⟨_, rfl⟩
  have e : wY (yU g.E i :: g.E.drop (i + 1)) i s = if zE s.O x.f x.fp = 0 then (if zE s.I x.t x.tp = 0 then (if 256 < x.start.length then (⟨88, 2, i, 0⟩, s) else wY (g.E.drop (i + 1)) (i + 1) ⟨s.ns, yK s.I x.t x.tp, yK s.O x.f x.fp⟩) else (⟨zE s.I x.t x.tp, 2, i, 2⟩, s)) else (⟨zE s.O x.f x.fp, 2, i, 1⟩, s) := by subst hx; rfl
  have l : yY (n + 1) i (xW g) 2 = if (xW g i).1 ≠ 0 then ⟨(xW g i).1, 2, i, (xW g i).2⟩ else yY n (i + 1) (xW g) 2 := rfl
  have q1 := gY hm x.f x.fp
  have q2 := dR hm x.t x.tp
  have le : xW g i = if zE s.O x.f x.fp ≠ 0 then (zE s.O x.f x.fp, 1) else if zE s.I x.t x.tp ≠ 0 then (zE s.I x.t x.tp, 2) else if 256 < x.start.length then (88, 0) else (0, 0) := by
   unfold xW
   rw [hx, q1, q2]
  rw [e, l]
  by_cases h1 : zE s.O x.f x.fp = 0
  ·rw [if_pos h1]
   have n1 : ¬ zE s.O x.f x.fp ≠ 0 := fun h => h h1
   by_cases h2 : zE s.I x.t x.tp = 0
   ·rw [if_pos h2]
    have n2 : ¬ zE s.I x.t x.tp ≠ 0 := fun h => h h2
    by_cases h3 : 256 < x.start.length
    ·have ec : xW g i = (88, 0) := by rw [le, if_neg n1, if_neg n2, if_pos h3]
     rw [if_pos h3, ec]
     exact ⟨rfl, fun h => absurd h (by show ¬ (88 : Int) = 0; decide)⟩
    have ec : xW g i = (0, 0) := by rw [le, if_neg n1, if_neg n2, if_neg h3]
    rw [if_neg h3, ec, if_neg (by decide)]
    refine mH g n (i + 1) _ (by omega) ⟨fun y => hm.ns y, ?_, ?_, fun a ha => ?_, fun a ha => ?_, fun a p ha hp => ?_, fun a p ha hp => ?_⟩
    ·show (yK _ _ _).length = _
     rw [vC]; exact hm.lI
    ·show (yK _ _ _).length = _
     rw [vC]; exact hm.lO
    ·show (xV (yK _ _ _) a).length = _
     rw [rK h2]; exact hm.rI a ha
    ·show (xV (yK _ _ _) a).length = _
     rw [rK h1]; exact hm.rO a ha
    ·show sV (yK _ _ _) a p = _
     rw [rL h2, UE hi, hm.bI a p ha hp, hx]
    show sV (yK _ _ _) a p = _
    rw [rL h1, WK hi, hm.bO a p ha hp, hx]
   have ec : xW g i = (zE s.I x.t x.tp, 2) := by rw [le, if_neg n1, if_pos h2]
   rw [if_neg h2, ec, if_pos h2]
   exact ⟨rfl, fun h => absurd h h2⟩
  have ec : xW g i = (zE s.O x.f x.fp, 1) := by rw [le, if_pos h1]
  rw [if_neg h1, ec, if_pos h1]
  exact ⟨rfl, fun h => absurd h h1⟩
theorem kI {ns : List (List UInt8)} {x y : List UInt8} {P Q : Prop} (h : (0 < ns.count y) = P) (hQ : Q = (P \/ x = y)) : (0 < (x :: ns).count y) = Q := by
 rw [hQ, <- h, List.count_cons]
 by_cases e : x = y
 ·simp [e]
 simp [e]
theorem gX (g : GG) : ∀ (n i : Nat) (s : LS), n + i = g.ins.length -> sK g s g.A.length g.E.length i 0 ->
 (sU (g.ins.drop i) i s).1 = yY n i (qG g) 3 /\ ((sU (g.ins.drop i) i s).1.code = 0 -> sK g (sU (g.ins.drop i) i s).2 g.A.length g.E.length g.ins.length 0)
 | 0, i, s, hn, hm => by
  have e : g.ins.drop i = [] := List.drop_eq_nil_of_le (by omega)
  rw [e]
  have e2 : i = g.ins.length := by omega
  subst e2
  exact ⟨rfl, fun _ => hm⟩
 | n + 1, i, s, hn, hm => by
  have hi : i < g.ins.length := by omega
  rw [jN hi]
  obtain ⟨x, hx⟩ : ∃ x, zF g.ins i = x := ⟨_, rfl⟩
  have e : sU (zF g.ins i :: g.ins.drop (i + 1)) i s = if (zL s.ns x.name).1 = 0 then (if zE s.I x.actor x.port = 0 then sU (g.ins.drop (i + 1)) (i + 1) ⟨(zL s.ns x.name).2, yK s.I x.actor x.port, s.O⟩ else (⟨zE s.I x.actor x.port, 3, i, 2⟩, s)) else (⟨(zL s.ns x.name).1, 3, i, 0⟩, s) := by subst hx; rfl
  have l : yY (n + 1) i (qG g) 3 = if (qG g i).1 ≠ 0 then ⟨(qG g i).1, 3, i, (qG g i).2⟩ else yY n (i + 1) (qG g) 3 := rfl
  have q2 := dR hm x.actor x.port
  have le : qG g i = if yM x.name = false then (82, 0) else if yX g g.A.length i 0 x.name = true then (83, 0) else (zE s.I x.actor x.port, 2) := by
   unfold qG
   rw [hx, q2]
  rw [e, l, le]
  by_cases h1 : yM x.name = true
  ·have hns := hm.ns x.name
   rw [if_neg (by rw [h1]; decide : ¬ yM x.name = false)]
   by_cases h2 : 0 < s.ns.count x.name
   ·have h3 : yX g g.A.length i 0 x.name = true := by rw [<- hns]; exact h2
    have ae : zL s.ns x.name = (83, x.name :: s.ns) := by unfold zL; rw [if_pos h1, if_pos h2]
    rw [ae, if_pos h3]
    exact ⟨rfl, fun h => absurd h (by show ¬ (83 : Int) = 0; decide)⟩
   have h3 : ¬ yX g g.A.length i 0 x.name = true := by rw [<- hns]; exact h2
   have ae : zL s.ns x.name = (0, x.name :: s.ns) := by unfold zL; rw [if_pos h1, if_neg h2]
   rw [ae, if_neg h3, if_pos rfl]
   by_cases h4 : zE s.I x.actor x.port = 0
   ·rw [if_pos h4, if_neg (by show ¬ zE s.I x.actor x.port ≠ 0; rw [h4]; decide)]
    refine gX g n (i + 1) _ (by omega) ⟨fun y => ?_, ?_, hm.lO, fun a ha => ?_, hm.rO, fun a p ha hp => ?_, hm.bO⟩
    ·exact kI (hm.ns y) (by rw [WM hi, hx])
    ·show (yK _ _ _).length = _
     rw [vC]; exact hm.lI
    ·show (xV (yK _ _ _) a).length = _
     rw [rK h4]; exact hm.rI a ha
    show sV (yK _ _ _) a p = _
    rw [rL h4, UD hi, hm.bI a p ha hp, hx]
   rw [if_neg h4, if_pos h4]
   exact ⟨rfl, fun h => absurd h h4⟩
  have h1' : yM x.name = false := by simpa using h1
  have ae : zL s.ns x.name = (82, s.ns) := by unfold zL; rw [if_neg h1]
  rw [ae, if_pos h1']
  exact ⟨rfl, fun h => absurd h (by show ¬ (82 : Int) = 0; decide)⟩
theorem kH (g : GG) : ∀ (n i : Nat) (s : LS), n + i = g.outs.length -> sK g s g.A.length g.E.length g.ins.length i ->
 (vF (g.outs.drop i) i s).1 = yY n i (wA g) 4 /\ ((vF (g.outs.drop i) i s).1.code = 0 -> sK g (vF (g.outs.drop i) i s).2 g.A.length g.E.length g.ins.length g.outs.length)
 | 0, i, s, hn, hm => by
  have e : g.outs.drop i = [] := List.drop_eq_nil_of_le (by omega)
  rw [e]
  have e2 : i = g.outs.length := by omega
  subst e2
  exact ⟨rfl, fun _ => hm⟩
 | n + 1, i, s, hn, hm => by
  have hi : i < g.outs.length := by omega
  rw [jN hi]
  obtain ⟨x, hx⟩ : ∃ x, zF g.outs i = x := ⟨_, rfl⟩
  have e : vF (zF g.outs i :: g.outs.drop (i + 1)) i s = if (zL s.ns x.name).1 = 0 then (if zE s.O x.actor x.port = 0 then vF (g.outs.drop (i + 1)) (i + 1) ⟨(zL s.ns x.name).2, s.I, yK s.O x.actor x.port⟩ else (⟨zE s.O x.actor x.port, 4, i, 1⟩, s)) else (⟨(zL s.ns x.name).1, 4, i, 0⟩, s) := by subst hx; rfl
  have l : yY (n + 1) i (wA g) 4 = if (wA g i).1 ≠ 0 then ⟨(wA g i).1, 4, i, (wA g i).2⟩ else yY n (i + 1) (wA g) 4 := rfl
  have q2 := gY hm x.actor x.port
  have le : wA g i = if yM x.name = false then (82, 0) else if yX g g.A.length g.ins.length i x.name = true then (83, 0) else (zE s.O x.actor x.port, 1) := by
   unfold wA
   rw [hx, q2]
  rw [e, l, le]
  by_cases h1 : yM x.name = true
  ·have hns := hm.ns x.name
   rw [if_neg (by rw [h1]; decide : ¬ yM x.name = false)]
   by_cases h2 : 0 < s.ns.count x.name
   ·have h3 : yX g g.A.length g.ins.length i x.name = true := by rw [<- hns]; exact h2
    have ae : zL s.ns x.name = (83, x.name :: s.ns) := by unfold zL; rw [if_pos h1, if_pos h2]
    rw [ae, if_pos h3]
    exact ⟨rfl, fun h => absurd h (by show ¬ (83 : Int) = 0; decide)⟩
   have h3 : ¬ yX g g.A.length g.ins.length i x.name = true := by rw [<- hns]; exact h2
   have ae : zL s.ns x.name = (0, x.name :: s.ns) := by unfold zL; rw [if_pos h1, if_neg h2]
   rw [ae, if_neg h3, if_pos rfl]
   by_cases h4 : zE s.O x.actor x.port = 0
   ·rw [if_pos h4, if_neg (by show ¬ zE s.O x.actor x.port ≠ 0; rw [h4]; decide)]
    refine kH g n (i + 1) _ (by omega) ⟨fun y => ?_, hm.lI, ?_, hm.rI, fun a ha => ?_, hm.bI, fun a p ha hp => ?_⟩
    ·exact kI (hm.ns y) (by rw [WL hi, hx])
    ·show (yK _ _ _).length = _
     rw [vC]; exact hm.lO
    ·show (xV (yK _ _ _) a).length = _
     rw [rK h4]; exact hm.rO a ha
    show sV (yK _ _ _) a p = _
    rw [rL h4, WJ hi, hm.bO a p ha hp, hx]
   rw [if_neg h4, if_pos h4]
   exact ⟨rfl, fun h => absurd h h4⟩
  have h1' : yM x.name = false := by simpa using h1
  have ae : zL s.ns x.name = (82, s.ns) := by unfold zL; rw [if_neg h1]
  rw [ae, if_pos h1']
  exact ⟨rfl, fun h => absurd h (by show ¬ (82 : Int) = 0; decide)⟩
theorem mG {l : List Bool} {n : Nat} {f : Nat -> Bool} (hl : l.length = n) (h : ∀ p, p < n -> l.getD p false = f p) : l.contains false = (List.range n).any (fun p => !f p) := by
 rw [Bool.eq_iff_iff, List.contains_iff_mem, List.any_eq_true]
 constructor
 ·intro hm
  obtain ⟨k, hk, e⟩ := List.mem_iff_getElem.1 hm
  refine ⟨k, List.mem_range.2 (by omega), ?_⟩
  rw [<- h k (by omega), List.getD_eq_getElem?_getD, List.getElem?_eq_getElem hk, e]
  rfl
 rintro ⟨k, hk, e⟩
 have hk' := List.mem_range.1 hk
 have h2 := h k hk'
 rw [List.getD_eq_getElem?_getD, List.getElem?_eq_getElem (by omega)] at h2
 have : f k = false := by simpa using e
 rw [this] at h2
 exact List.mem_iff_getElem.2 ⟨k, by omega, h2⟩
theorem kG (g : GG) {s : LS} (hm : sK g s g.A.length g.E.length g.ins.length g.outs.length) : ∀ (n i : Nat), n + i = g.A.length -> sC s.I s.O n i = yY n i (wF g) 1
 | 0, _, _ => rfl
 | n + 1, i, hn => by
  have hi : i < g.A.length := by omega
  have e1 : pM s.I i = (List.range (uL g i)).any (fun p => !vS g g.E.length g.ins.length (i : Int) (p : Int)) := mG (hm.rI i hi) (fun p hp => hm.bI i p hi hp)
  have e2 : pM s.O i = (List.range (wT g i)).any (fun p => !xI g g.E.length g.outs.length (i : Int) (p : Int)) := mG (hm.rO i hi) (fun p hp => hm.bO i p hi hp)
  have e : sC s.I s.O (n + 1) i = if pM s.I i = true \/ pM s.O i = true then ⟨87, 1, i, 0⟩ else sC s.I s.O n (i + 1) := rfl
  have l : yY (n + 1) i (wF g) 1 = if (wF g i).1 ≠ 0 then ⟨(wF g i).1, 1, i, (wF g i).2⟩ else yY n (i + 1) (wF g) 1 := rfl
  rw [e, l]
  unfold wF tZ
  rw [e1, e2]
  generalize List.any (List.range (uL g i)) _ = x
  generalize List.any (List.range (wT g i)) _ = y
  have r := kG g hm n (i + 1) (by omega)
  unfold wF tZ at r
  cases x <;> cases y <;> simp [r]
theorem vZ (g : GG) : yZ g = xQ g := by
 have hA := nZ g g.A.length 0 ⟨[], [], []⟩ (by omega) (gZ g)
 rw [List.drop_zero] at hA
 unfold yZ xQ
 by_cases h0 : (xD g).code ≠ 0
 ·rw [if_pos h0, if_pos h0]
 rw [if_neg h0, if_neg h0]
 simp only
 rw [hA.1]
 by_cases h1 : (yY g.A.length 0 (fun i => (yR g i, 0)) 1).code ≠ 0
 ·rw [if_pos h1, if_pos h1]
 rw [if_neg h1, if_neg h1]
 have hE := mH g g.E.length 0 _ (by omega) (hA.2 (by rw [hA.1]; simpa using h1))
 rw [List.drop_zero] at hE
 rw [hE.1]
 by_cases h2 : (yY g.E.length 0 (xW g) 2).code ≠ 0
 ·rw [if_pos h2, if_pos h2]
 rw [if_neg h2, if_neg h2]
 have hI := gX g g.ins.length 0 _ (by omega) (hE.2 (by rw [hE.1]; simpa using h2))
 rw [List.drop_zero] at hI
 rw [hI.1]
 by_cases h3 : (yY g.ins.length 0 (qG g) 3).code ≠ 0
 ·rw [if_pos h3, if_pos h3]
 rw [if_neg h3, if_neg h3]
 have hO := kH g g.outs.length 0 _ (by omega) (hI.2 (by rw [hI.1]; simpa using h3))
 rw [List.drop_zero] at hO
 rw [hO.1]
 by_cases h4 : (yY g.outs.length 0 (wA g) 4).code ≠ 0
 ·rw [if_pos h4, if_pos h4]
 rw [if_neg h4, if_neg h4]
 exact kG g (hO.2 (by rw [hO.1]; simpa using h4)) g.A.length 0 (by omega)
theorem vL {f : Nat -> Int × Nat} {k : Nat} : ∀ (n i : Nat), (yY n i f k).code = 0 -> ∀ j, i <= j -> j < i + n -> (f j).1 = 0
 | 0, i, _, j, h1, h2 => by omega
 | n + 1, i, h, j, h1, h2 => by
  have e : yY (n + 1) i f k = if (f i).1 ≠ 0 then ⟨(f i).1, k, i, (f i).2⟩ else yY n (i + 1) f k := rfl
  rw [e] at h
  by_cases h0 : (f i).1 ≠ 0
  ·rw [if_pos h0] at h; exact absurd h h0
  rw [if_neg h0] at h
  by_cases hj : j = i
  ·subst hj; simpa using h0
  exact vL n (i + 1) h j (by omega) (by omega)
theorem vX {f : Nat -> Int × Nat} {k : Nat} : ∀ (n i : Nat), (∀ j, i <= j -> j < i + n -> (f j).1 = 0) -> (yY n i f k).code = 0
 | 0, _, _ => rfl
 | n + 1, i, h => by
  have e : yY (n + 1) i f k = if (f i).1 ≠ 0 then ⟨(f i).1, k, i, (f i).2⟩ else yY n (i + 1) f k := rfl
  rw [e, if_neg (by rw [h i (Nat.le_refl _) (by omega)]; decide)]
  exact vX n (i + 1) fun j h1 h2 => h j (by omega) (by omega)
theorem oN {f : Nat -> Int × Nat} {k : Nat} : ∀ (n i : Nat) (j : Nat), i <= j -> j < i + n -> (f j).1 ≠ 0 -> (∀ m, i <= m -> m < j -> (f m).1 = 0) -> yY n i f k = ⟨(f j).1, k, j, (f j).2⟩
 | 0, i, j, h1, h2, _, _ => by omega
 | n + 1, i, j, h1, h2, h3, h4 => by
  have e : yY (n + 1) i f k = if (f i).1 ≠ 0 then ⟨(f i).1, k, i, (f i).2⟩ else yY n (i + 1) f k := rfl
  rw [e]
  by_cases hj : j = i
  ·subst hj; rw [if_pos h3]
  rw [if_neg (by rw [h4 i (Nat.le_refl _) (by omega)]; decide)]
  exact oN n (i + 1) j (by omega) (by omega) h3 fun m q1 q2 => h4 m (by omega) q2
structure oM (g : GG) : Prop where
 head : (xD g).code = 0
 acts : ∀ i, i < g.A.length -> yR g i = 0
 E : ∀ i, i < g.E.length -> (xW g i).1 = 0
 ins : ∀ i, i < g.ins.length -> (qG g i).1 = 0
 outs : ∀ i, i < g.outs.length -> (wA g i).1 = 0
 opens : ∀ i, i < g.A.length -> tZ g i = false
theorem uR (g : GG) : (yZ g).code = 0 ↔ oM g := by
 rw [vZ]
 unfold xQ
 constructor
 ·intro h
  by_cases h0 : (xD g).code ≠ 0
  ·rw [if_pos h0] at h; exact absurd h h0
  rw [if_neg h0] at h
  by_cases h1 : (yY g.A.length 0 (fun i => (yR g i, 0)) 1).code ≠ 0
  ·rw [if_pos h1] at h; exact absurd h h1
  rw [if_neg h1] at h
  by_cases h2 : (yY g.E.length 0 (xW g) 2).code ≠ 0
  ·rw [if_pos h2] at h; exact absurd h h2
  rw [if_neg h2] at h
  by_cases h3 : (yY g.ins.length 0 (qG g) 3).code ≠ 0
  ·rw [if_pos h3] at h; exact absurd h h3
  rw [if_neg h3] at h
  by_cases h4 : (yY g.outs.length 0 (wA g) 4).code ≠ 0
  ·rw [if_pos h4] at h; exact absurd h h4
  rw [if_neg h4] at h
  refine ⟨by simpa using h0, fun i hi => vL _ _ (by simpa using h1) i (Nat.zero_le _) (by omega), fun i hi => vL _ _ (by simpa using h2) i (Nat.zero_le _) (by omega), fun i hi => vL _ _ (by simpa using h3) i (Nat.zero_le _) (by omega), fun i hi => vL _ _ (by simpa using h4) i (Nat.zero_le _) (by omega), fun i hi => ?_⟩
  have := vL _ _ h i (Nat.zero_le _) (by omega)
  unfold wF at this
  cases hb : tZ g i
  ·rfl
  rw [hb] at this; exact absurd this (by decide)
 intro h
 have e1 := vX (f := fun i => (yR g i, 0)) (k := 1) g.A.length 0 fun j _ hj => h.acts j (by omega)
 have e2 := vX (f := xW g) (k := 2) g.E.length 0 fun j _ hj => h.E j (by omega)
 have e3 := vX (f := qG g) (k := 3) g.ins.length 0 fun j _ hj => h.ins j (by omega)
 have e4 := vX (f := wA g) (k := 4) g.outs.length 0 fun j _ hj => h.outs j (by omega)
 rw [if_neg (by rw [h.head]; decide), if_neg (by rw [e1]; decide), if_neg (by rw [e2]; decide), if_neg (by rw [e3]; decide), if_neg (by rw [e4]; decide)]
 refine vX _ _ fun j _ hj => ?_
 unfold wF
 rw [h.opens j (by omega)]
 rfl
theorem rJ {g : GG} (h : (xD g).code = 0) : yM g.name = true /\ 0 < g.A.length /\ g.A.length <= 32 /\ g.E.length <= 96 /\ g.ins.length <= 16 /\ g.outs.length <= 16 := by
 unfold xD at h
 split at h
 ·exact qD h
 rename_i h1
 split at h
 ·exact qD h
 split at h
 ·exact qD h
 split at h
 ·exact qD h
 split at h
 ·exact qD h
 split at h
 ·exact qD h
 exact ⟨by simpa using h1, by omega, by omega, by omega, by omega, by omega⟩
theorem mF {g : GG} {i : Nat} (h : yR g i = 0) : yM (zI g.A i).name = true /\ yX g i 0 0 (zI g.A i).name = false /\ (sE (zI g.A i).tag (zI g.A i).params).2.2 = 0 := by
 unfold yR at h
 split at h
 ·exact qD h
 rename_i h1
 split at h
 ·exact qD h
 rename_i h2
 exact ⟨by simpa using h1, by simpa using h2, h⟩
structure UC (g : GG) (e : GE) : Prop where
 f0 : 0 <= e.f
 f1 : e.f < (g.A.length : Int)
 fp0 : 0 <= e.fp
 fp1 : e.fp < (wT g e.f.toNat : Int)
 t0 : 0 <= e.t
 t1 : e.t < (g.A.length : Int)
 tp0 : 0 <= e.tp
 tp1 : e.tp < (uL g e.t.toNat : Int)
 st : e.start.length <= 256
theorem dQ {g : GG} {i : Nat} (h : (xW g i).1 = 0) : UC g (yU g.E i) /\ xI g i 0 (yU g.E i).f (yU g.E i).fp = false /\ vS g i 0 (yU g.E i).t (yU g.E i).tp = false := by
 unfold xW at h
 split at h
 ·rename_i h1; exact absurd h h1
 rename_i h1
 split at h
 ·rename_i h2; exact absurd h h2
 rename_i h2
 split at h
 ·exact qD h
 rename_i h3
 have e1 := jJ (show oP _ _ _ _ _ = 0 by simpa [vM] using h1)
 have e2 := jJ (show oP _ _ _ _ _ = 0 by simpa [tM] using h2)
 exact ⟨⟨e1.1, e1.2.1, e1.2.2.1, e1.2.2.2.1, e2.1, e2.2.1, e2.2.2.1, e2.2.2.2.1, by omega⟩, e1.2.2.2.2, e2.2.2.2.2⟩
theorem VE {g : GG} {i : Nat} (h : (qG g i).1 = 0) : yM (zF g.ins i).name = true /\ yX g g.A.length i 0 (zF g.ins i).name = false /\ (0 <= (zF g.ins i).actor /\ (zF g.ins i).actor < (g.A.length : Int) /\ 0 <= (zF g.ins i).port /\ (zF g.ins i).port < (uL g (zF g.ins i).actor.toNat : Int)) /\ vS g g.E.length i (zF g.ins i).actor (zF g.ins i).port = false := by
 unfold qG at h
 split at h
 ·exact qD h
 rename_i h1
 split at h
 ·exact qD h
 rename_i h2
 have e := jJ (show oP _ _ _ _ _ = 0 from h)
 exact ⟨by simpa using h1, by simpa using h2, ⟨e.1, e.2.1, e.2.2.1, e.2.2.2.1⟩, e.2.2.2.2⟩
theorem ZS {g : GG} {i : Nat} (h : (wA g i).1 = 0) : yM (zF g.outs i).name = true /\ yX g g.A.length g.ins.length i (zF g.outs i).name = false /\ (0 <= (zF g.outs i).actor /\ (zF g.outs i).actor < (g.A.length : Int) /\ 0 <= (zF g.outs i).port /\ (zF g.outs i).port < (wT g (zF g.outs i).actor.toNat : Int)) /\ xI g g.E.length i (zF g.outs i).actor (zF g.outs i).port = false := by
 unfold wA at h
 split at h
 ·exact qD h
 rename_i h1
 split at h
 ·exact qD h
 rename_i h2
 have e := jJ (show oP _ _ _ _ _ = 0 from h)
 exact ⟨by simpa using h1, by simpa using h2, ⟨e.1, e.2.1, e.2.2.1, e.2.2.2.1⟩, e.2.2.2.2⟩
end Go.Proofs.Ytgoconkleicmkaa
namespace Go.Proofs.Ytgoconkleicmkaa
open Go.RowKit
theorem gW {α : Type} {l : List α} {x : α} (h : l.Nodup) (hx : x ∉ l) : (l ++ [x]).Nodup := by
 rw [List.nodup_append]
 refine ⟨h, List.nodup_cons.2 ⟨(fun q => by cases q), List.nodup_nil⟩, fun a ha b hb => ?_⟩
 rw [List.mem_singleton.1 hb]
 exact fun e => hx (e ▸ ha)
theorem kF {α : Type} {L : Nat -> List α} {x : Nat -> α} : ∀ (n : Nat), (∀ i, i < n -> L (i + 1) = L i ++ [x i]) -> ((L n).Nodup ↔ (L 0).Nodup /\ ∀ i, i < n -> x i ∉ L i)
 | 0, _ => ⟨fun h => ⟨h, fun i hi => absurd hi (Nat.not_lt_zero _)⟩, fun h => h.1⟩
 | n + 1, h => by
  have ih := kF (L := L) (x := x) n fun i hi => h i (by omega)
  rw [h n (Nat.lt_succ_self _)]
  constructor
  ·intro q
   rw [List.nodup_append] at q
   have q0 := ih.1 q.1
   refine ⟨q0.1, fun i hi => ?_⟩
   by_cases e : i = n
   ·subst e
    exact fun hm => q.2.2 _ hm _ (List.mem_singleton.2 rfl) rfl
   exact q0.2 i (by omega)
  intro q
  exact gW (ih.2 ⟨q.1, fun i hi => q.2 i (by omega)⟩) (q.2 n (Nat.lt_succ_self _))
def YH (g : GG) (na ni no : Nat) : List (List UInt8) := (g.A.take na).map (fun a => a.name) ++ ((g.ins.take ni).map (fun p => p.name) ++ (g.outs.take no).map (fun p => p.name))
theorem WG (g : GG) (na ni no : Nat) (x : List UInt8) : yX g na ni no x = true ↔ x ∈ YH g na ni no := by
 unfold yX YH
 simp only [Bool.or_eq_true, List.any_eq_true, List.mem_append, List.mem_map, beq_iff_eq]
theorem UB {g : GG} {na ni no : Nat} {x : List UInt8} : yX g na ni no x = false ↔ x ∉ YH g na ni no := by
 rw [<- WG, Bool.not_eq_true]
theorem nsG_A {g : GG} {i : Nat} (h : i < g.A.length) : YH g (i + 1) 0 0 = YH g i 0 0 ++ [(zI g.A i).name] := by
 unfold YH
 rw [fD h, List.map_append]
 simp
end Go.Proofs.Ytgoconkleicmkaa
