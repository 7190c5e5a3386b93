/- Actors, plain: what a firing gives and keeps; what follows. -/
import Derived.Test.YthgblljokonejaaH2b
namespace Go.Proofs.Ythgblljokonejaa
open Go.ChangeShapes Go.WideShapes Go.ChangeAt Go.RowKit

def nthL (I : List (List Int)) (k : Nat) : List Int := I.getD k []
theorem nthL_get {I : List (List Int)} {k : Nat} (h : k < I.length) : nthL I k = I[k] := by unfold nthL; rw [List.getD_eq_getElem?_getD, List.getElem?_eq_getElem h]; rfl
theorem nthL_mem {I : List (List Int)} {k : Nat} (h : k < I.length) : nthL I k ∈ I := by rw [nthL_get h]; exact List.getElem_mem h
theorem nthL_map {n k : Nat} {f : Nat → List Int} (h : k < n) : nthL ((List.range n).map f) k = f k := by
  unfold nthL; rw [List.getD_eq_getElem?_getD, List.getElem?_map, List.getElem?_range h]; rfl
theorem nth_map {n k : Nat} {f : Nat → Int} (h : k < n) : nth ((List.range n).map f) k = f k := by
  unfold nth; rw [List.getD_eq_getElem?_getD, List.getElem?_map, List.getElem?_range h]; rfl
theorem nthZ_get {zs : List Int} {k : Nat} (h : k < zs.length) : nth zs k = zs[k] := by unfold nth; rw [List.getD_eq_getElem?_getD, List.getElem?_eq_getElem h]; rfl
theorem list_nth {xs ys : List Int} (hl : xs.length = ys.length) (h : ∀ k, k < xs.length → nth xs k = nth ys k) : xs = ys :=
  List.ext_getElem hl fun k h1 h2 => by rw [← nthZ_get h1, ← nthZ_get h2]; exact h k h1
theorem list_nthL {xs ys : List (List Int)} (hl : xs.length = ys.length) (h : ∀ k, k < xs.length → nthL xs k = nthL ys k) : xs = ys :=
  List.ext_getElem hl fun k h1 h2 => by rw [← nthL_get h1, ← nthL_get h2]; exact h k h1
theorem nth_rep {n k : Nat} {x : Int} (h : k < n) : nth (List.replicate n x) k = x := by
  unfold nth; rw [List.getD_eq_getElem?_getD, List.getElem?_replicate, if_pos h]; rfl
theorem nthL_rep {n k : Nat} {x : List Int} (h : k < n) : nthL (List.replicate n x) k = x := by
  unfold nthL; rw [List.getD_eq_getElem?_getD, List.getElem?_replicate, if_pos h]; rfl
theorem nth_none {zs : List Int} {k : Nat} (h : zs.length ≤ k) : nth zs k = 0 := by unfold nth; rw [List.getD_eq_getElem?_getD, List.getElem?_eq_none h]; rfl

def weaveS (n m : Nat) (I : List (List Int)) : List Int := (List.range (n * m)).map fun q => nth (nthL I (q % n)) (q / n)
def partS (n m : Nat) (row : List Int) : List (List Int) := (List.range n).map fun i => (List.range m).map fun j => nth row (j * n + i)
def upS (n : Nat) (x : Int) : List Int := (List.replicate n 0).set 0 x
/-- What a firing gives, and what is kept behind it; none: it fails. -/
def giveS (t : Nat) (zs ks : List Int) (I : List (List Int)) : Option (List (List Int) × List Int) :=
  match t with
  | 1 => (dotO 0 zs (nth (nthL I 0) 0 :: ks)).map fun y => ([[y]], (nth (nthL I 0) 0 :: ks).take ks.length)
  | 2 => some ([upS (nth zs 0).toNat (nth (nthL I 0) 0)], ks)
  | 3 => some ([[nth (nthL I 0) 0]], ks)
  | 4 => some ([weaveS (nth zs 0).toNat (nth zs 1).toNat I], ks)
  | 5 => some (partS (nth zs 0).toNat (nth zs 1).toNat (nthL I 0), ks)
  | 6 => (sumO 0 (I.map (nth · 0))).map fun y => ([[y]], ks)
  | 7 => if nth (nthL I 1) 0 = 0 ∨ (nth (nthL I 0) 0 = -9223372036854775808 ∧ nth (nthL I 1) 0 = -1) then none else some ([[(nth (nthL I 0) 0).tdiv (nth (nthL I 1) 0)]], ks)
  | 8 => if fitB (nth ks 0 + nth (nthL I 0) 0) = true then some ([[nth ks 0 + nth (nthL I 0) 0]], [nth ks 0 + nth (nthL I 0) 0]) else none
  | 9 => some (List.replicate (nth zs 0).toNat [nth (nthL I 0) 0], ks)
  | 10 => if fitB (nth ks 0 + nth zs 1) = true then some ([[nth ks 0]], [nth ks 0 + nth zs 1]) else none
  | _ => some ([], ks)
def takesS (t : Nat) (zs : List Int) (I : List (List Int)) : Bool := decide (I.map (fun l => (l.length : Int)) = insS t zs)
/-- A firing: the error's number, what is given, what is kept. -/
def fireS (t : Nat) (zs ks : List Int) (I : List (List Int)) : Int × List (List Int) × List Int :=
  if takesS t zs I = true then (match giveS t zs ks I with | some p => (0, p.1, p.2) | none => (70, [], ks)) else (1, [], ks)
def keepS (t : Nat) (zs : List Int) : List Int :=
  match t with
  | 1 => List.replicate (zs.length - 1) 0
  | 8 => [0]
  | 10 => [nth zs 0]
  | _ => []
/-- What holds of what an actor keeps. -/
def KeepOk (t : Nat) (zs ks : List Int) : Prop :=
  InR ks ∧ (t = 1 → ks.length + 1 = zs.length) ∧ (t = 8 ∨ t = 10 → ks.length = 1) ∧ (t ≠ 1 → t ≠ 8 → t ≠ 10 → ks = [])
end Go.Proofs.Ythgblljokonejaa
