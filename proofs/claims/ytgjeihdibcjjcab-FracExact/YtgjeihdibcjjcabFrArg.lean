/- Fractions, and slices of fractions, that come in: how they read. -/
import Derived.Test.YtgjeihdibcjjcabFrAwake
import Derived.Deep.SlicePairs
namespace Go.Proofs.Ytgjeihdibcjjcab
open Go.ChangeShapes Go.WideShapes Go.ChangeAt Go.RowKit

theorem Try.bytesFR : Try.prog.bytesOf 24 = 16 := by kernel_rfl
theorem Try.cellsFR : Try.prog.cellsOf 24 = 2 := by kernel_rfl
theorem Try.cells3' : Try.prog.cellsOf 3 = 1 := by kernel_rfl

section
variable {H : Type} {enc : TypeId × Value → H} {W : World} {base : Nat} {spare : Nat → Bool} {held : Bool}

/-- A fraction by value: its two numbers. -/
theorem frac_open {r : Reach} {b0 : Nat} {v : Value} {d : DataW H} {p : List MemPlace} (hv : Value.okWide Try.prog W r b0 24 v) (h : DataW.Trod enc Try.prog W base spare held 24 v d p) :
    ∃ a b : Int, v = .agg #[.int .i64 a, .int .i64 b] ∧ (-9223372036854775808 ≤ a ∧ a ≤ 9223372036854775807) ∧ (-9223372036854775808 ≤ b ∧ b ≤ 9223372036854775807) := by
  obtain ⟨cs, rfl, hsz⟩ := okWide_struct Try.underlying24 hv
  rw [Try.cellsFR] at hsz
  obtain ⟨fuel, hf⟩ := h
  obtain ⟨y0, y1, n, -, -, h0, h1⟩ := trod_struct2 Try.underlying24 hf
  obtain ⟨l⟩ := cs
  match l, hsz with
  | [u, v], _ =>
    simp [Value.cells, Try.cells3'] at h0 h1
    obtain ⟨a, ea, -, wa⟩ := DataW.trod_int Try.underlying3 h0
    obtain ⟨b, eb, -, wb⟩ := DataW.trod_int Try.underlying3 h1
    simp at ea eb
    subst ea eb
    exact ⟨a, b, rfl, bounds_i64 wa, bounds_i64 wb⟩

/-- A slice of fractions: its elements, where they lie, and its datum's two lengths. -/
theorem fracs_open {a : Option Addr} {len cap : Nat} {d : DataW H} {p : List MemPlace} (h : DataW.Trod enc Try.prog W base (fun _ => true) held 43 (.slice a len cap) d p) :
    (a = none ∧ len = 0 ∧ cap = 0) ∨ (a ≠ none ∧ len ≤ cap ∧ ∃ fs : List (Int × Int), fs.length = len ∧ AtP W a fs ∧ InRP fs ∧ ∃ l1 l2 : List (DataW H), d = .slice l1 l2 ∧ l1.length = len) := by
  obtain ⟨fuel, hf⟩ := h
  rcases Deep.open_slice_pairs Try.underlying43 Try.underlying24 Try.cellsFR rfl rfl Try.cells3' Try.cells3' hf with ⟨h1, -⟩ | ⟨x, l, c, m, n, V0, V1, D0, D1, P0, P1, h1, -, hl, -, hm, hd, hx⟩
  · simp [Value.cells] at h1
    exact .inl h1
  · simp [Value.cells] at h1
    obtain ⟨rfl, rfl, rfl⟩ := h1
    right
    have hml : len ≤ m := by rw [hm]; simp; exact hl
    have each : ∀ i, i < len → ∃ u v : Int, V0 i = .int .i64 u ∧ V1 i = .int .i64 v ∧ (-9223372036854775808 ≤ u ∧ u ≤ 9223372036854775807) ∧ (-9223372036854775808 ≤ v ∧ v ≤ 9223372036854775807) := by
      intro i hi
      obtain ⟨-, -, t0, t1⟩ := hx i (by omega)
      obtain ⟨u, eu, -, wu⟩ := DataW.trod_int Try.underlying3 t0
      obtain ⟨v, ev, -, wv⟩ := DataW.trod_int Try.underlying3 t1
      simp at eu ev
      exact ⟨u, v, eu, ev, bounds_i64 wu, bounds_i64 wv⟩
    have hn : ∀ k, k < len → nthN ((List.range len).map fun i => (intOf (V0 i), intOf (V1 i))) k = intOf (V0 k) := fun k hk => by
      unfold nthN; rw [List.getD_eq_getElem?_getD, List.getElem?_map, List.getElem?_range hk]; rfl
    have hdn : ∀ k, k < len → nthD ((List.range len).map fun i => (intOf (V0 i), intOf (V1 i))) k = intOf (V1 k) := fun k hk => by
      unfold nthD; rw [List.getD_eq_getElem?_getD, List.getElem?_map, List.getElem?_range hk]; rfl
    refine ⟨by simp, hl, (List.range len).map fun i => (intOf (V0 i), intOf (V1 i)), by simp, ?_, ?_, _, _, congrArg Prod.fst hd, by simp⟩
    · by_cases h0 : 0 < len
      · obtain ⟨b, off, sp⟩ := x
        have hsp : sp = none := by
          have := (hx 0 (by omega)).1
          cases sp with
          | none => rfl
          | some s => simp [World.cell?, Addr.add] at this; split at this <;> cases this
        subst hsp
        refine .inr ⟨b, off, rfl, fun k hk => ?_⟩
        have hk' : k < len := by simpa using hk
        obtain ⟨u, v, eu, ev, -, -⟩ := each k hk'
        have hc := hx k (by omega)
        rw [hn k hk', hdn k hk', eu, ev]
        rw [eu, ev] at hc
        rw [Addr.add_lit] at hc
        rw [Addr.add_lit] at hc
        exact ⟨hc.1, hc.2.1⟩
      · have e : len = 0 := by omega
        subst e
        exact .inl rfl
    · intro k
      by_cases hk : k < len
      · obtain ⟨u, v, eu, ev, bu, bv⟩ := each k hk
        rw [hn k hk, hdn k hk, eu, ev]
        exact ⟨bu, bv⟩
      · have e : ((List.range len).map fun i => (intOf (V0 i), intOf (V1 i))).getD k (0, 0) = (0, 0) := by
          rw [List.getD_eq_getElem?_getD, List.getElem?_eq_none (by simp; omega)]; rfl
        unfold nthN nthD
        rw [e]
        exact (by decide : ((-9223372036854775808 : Int) ≤ 0 ∧ (0 : Int) ≤ 9223372036854775807) ∧ ((-9223372036854775808 : Int) ≤ 0 ∧ (0 : Int) ≤ 9223372036854775807))
end
end Go.Proofs.Ytgjeihdibcjjcab
