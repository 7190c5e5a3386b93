/- Texts of one chain, laid one behind the other. -/
import Derived.Test.YthgblljokonejaaGreatDoorPartSketchPrints9
/- The walk through the statement SketchBack. -/
namespace Go.Proofs.YthgblljokonejaaGreatDoor
open Go.ChangeShapes Go.WideShapes Go.ChangeAt Go.RowKit

theorem right_bare (x : Itm) : rightX (bareI x) = rightX x := rfl
theorem itemT_bare (x : Itm) : itemT (bareI x) = itemT x := rfl
theorem all_bare (xs : List Itm) : (xs.map bareI).all rightX = xs.all rightX := by
  rw [List.all_map]; rfl
theorem formX_bare (nm : List UInt8) (xs : List Itm) : formX nm (xs.map bareI) = formX nm xs := by
  unfold formX
  rw [List.flatMap_map]; rfl
theorem printX_bare {nm : List UInt8} {xs ys : List Itm} (h : xs.map bareI = ys.map bareI) : printX nm xs = printX nm ys := by
  have h1 : xs.all rightX = ys.all rightX := by rw [← all_bare xs, ← all_bare ys, h]
  have h2 : formX nm xs = formX nm ys := by rw [← formX_bare nm xs, ← formX_bare nm ys, h]
  unfold printX
  rw [h1, h2]
/-- What is printed: nothing and an error, or the one form of items that are right. -/
theorem printX_cases (nm : List UInt8) (xs : List Itm) : (∃ er, printX nm xs = ([], er) ∧ (er = 1 ∨ er = 2)) ∨ (printX nm xs = (formX nm xs, 0) ∧ nameB nm = true ∧ (∀ x ∈ xs, rightX x = true) ∧ (formX nm xs).length ≤ 1048576) := by
  unfold printX
  by_cases h : (xs.all rightX && nameB nm) = true
  · rw [if_pos h]
    by_cases h2 : 1048576 < (formX nm xs).length
    · rw [if_pos h2]; exact .inl ⟨2, rfl, .inr rfl⟩
    · rw [if_neg h2]
      rw [Bool.and_eq_true, List.all_eq_true] at h
      exact .inr ⟨rfl, h.2, h.1, by omega⟩
  · rw [if_neg h]; exact .inl ⟨1, rfl, .inl rfl⟩
theorem ArgS.fitsL {w a n L} (h : ArgS w a n L) (hm : ∀ p ∈ L, p.1.nums.length ≤ 1048576) : ∀ x ∈ L.map Prod.fst, Fits x := by
  intro x hx
  obtain ⟨p, hp, rfl⟩ := List.mem_map.1 hx
  obtain ⟨h1, h2, h3⟩ := h.fits p hp
  exact ⟨small_of h1, small_of h2, fun n hn => small_of (h3 n hn), by have := hm p hp; omega⟩
/-- A sketch of one's own, printed. -/
theorem lent_print {nm : List UInt8} {n : Nat} {L : List (Itm × Value)} {w : World} (hT : Tab w.heap.size w) (hh : n ≤ 1048576 ∧ ∀ p ∈ L, p.1.nums.length ≤ 1048576) (V : World) (a' : Option Addr) (c' : Nat) (M : List (Itm × Value)) (hb : Below w.heap.size w V) (hM : (M.map Prod.fst).map bareI = (L.map Prod.fst).map bareI) (hF : ∀ p ∈ M, Fits p.1) (hl : M.length = n) (hi : ItR V a' M) :
    Calls Tryz.prog 12 #[.agg #[.string (str nm), .slice a' n c']] V fun e w' => e = .returned (.tuple #[.string (str (printX nm (L.map Prod.fst)).1), .int .i64 (printX nm (L.map Prod.fst)).2]) ∧ Below V.heap.size V w' := by
  have := print_any nm a' n c' M V hl hi (by omega) hF (hT.on5 hb)
  rw [print_items, printX_bare hM] at this
  exact this
theorem lent_fits {a : Option Addr} {n : Nat} {L M : List (Itm × Value)} {w : World} (h : ArgS w a n L) (hm : ∀ p ∈ L, p.1.nums.length ≤ 1048576) (hM : M.map Prod.fst = L.map Prod.fst) : ∀ p ∈ M, Fits p.1 := fun p hp =>
  h.fitsL hm p.1 (by rw [← hM]; exact List.mem_map_of_mem hp)
end Go.Proofs.YthgblljokonejaaGreatDoor
