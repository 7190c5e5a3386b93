/- Texts of one chain, laid one behind the other. -/
import Derived.Test.YtigaimkflngneaaPartNestFlats14
import Derived.Test.YtigaimkflngneaaPartNestFlats20
namespace Go.Proofs.Ytigaimkflngneaa
open Go.ChangeShapes Go.WideShapes Go.ChangeAt Go.RowKit
theorem nthY_getU {L : List (Int × Int)} {k : Nat} (h : k < L.length) : nthY L k = L[k] := by
  unfold nthY
  rw [List.getD_eq_getElem?_getD, List.getElem?_eq_getElem h]
  rfl
theorem Try.cellsRn : Try.prog.cellsOf 29 = 2 := by kernel_rfl
theorem Try.bytesRn : Try.prog.bytesOf 29 = 16 := by kernel_rfl
/-- What a walk is told of runs that came in. -/
structure ArgY (w : World) (a : Option Addr) (len cap : Nat) (L : List (Int × Int)) : Prop where
  len : L.length = len
  lies : AtY w a L
  none : a = Option.none → L.length = 0 ∧ cap = 0
  room : L.length * 16 ≤ 140737488351232
  cap : L.length ≤ cap
theorem ArgY.below {w w' : World} {a : Option Addr} {len cap : Nat} {L : List (Int × Int)} (h : ArgY w a len cap L) (hb : Below w.heap.size w w') : ArgY w' a len cap L := ⟨h.len, h.lies.below hb, h.none, h.room, h.cap⟩
section
variable {H : Type} {enc : TypeId × Value → H} {W : World} {base : Nat} {held : Bool}
set_option maxRecDepth 100000 in
theorem runY_open {n : Nat} {cs : List Value} {y : DataW H × List MemPlace} (h : DataW.trod enc Try.prog W base (fun _ => true) held n 29 cs = some y) : ∃ p : Int × Int, cs = rnV p := by
  obtain ⟨xs, k, hk, hxy, hcl, hxl, hf⟩ := DataW.trod_struct Try.underlying29 h
  rw [Try.cellsRn] at hcl
  match xs, hxl, cs, hcl with
  | [y0, y1], _, [v0, v1], _ =>
    have g0 := hf 0 _ rfl
    have g1 := hf 1 _ rfl
    simp [Try.cells3N] at g0 g1
    obtain ⟨z0, q0, -, -⟩ := DataW.trod_int Try.underlying3 g0
    obtain ⟨z1, q1, -, -⟩ := DataW.trod_int Try.underlying3 g1
    simp only [List.cons.injEq, and_true] at q0 q1
    subst q0 q1
    exact ⟨(z0, z1), rfl⟩
set_option maxRecDepth 100000 in
theorem runs_open {n : Nat} {v : Value} {y : DataW H × List MemPlace} (h : DataW.trod enc Try.prog W base (fun _ => true) held n 24 [v] = some y) (hw : (y.1.weights Try.prog 24).all (· ≤ reachBytes) = true) :
    ∃ (a : Option Addr) (len cap : Nat) (L : List (Int × Int)), v = .slice a len cap ∧ ArgY W a len cap L := by
  rcases Deep.open_slice Try.underlying24 h with ⟨h1, -⟩ | ⟨x, len, cap, m, n, D, Pl, h1, -, hl, -, hm, hd, hx⟩
  · simp only [List.cons.injEq, and_true] at h1
    subst h1
    exact ⟨none, 0, 0, [], rfl, rfl, .inl rfl, fun _ => ⟨rfl, rfl⟩, by decide, Nat.le_refl _⟩
  · simp only [List.cons.injEq, and_true] at h1
    subst h1
    simp only [if_true] at hm
    rw [hd] at hw
    simp only [DataW.weights, Try.underlying24, List.all_cons, List.all_append, Bool.and_eq_true, decide_eq_true_eq, Try.bytesRn] at hw
    obtain ⟨wr, we, -⟩ := hw
    simp only [reachBytes, List.length_map, List.length_range] at wr
    have each : ∀ i, i < len → ∃ p : Int × Int, W.cells? base (x.add (i * 2)) 2 = some (rnV p) := by
      intro i hi
      obtain ⟨cs', h1, h2⟩ := hx i (by omega)
      rw [Try.cellsRn] at h1
      obtain ⟨p, rfl⟩ := runY_open h2
      exact ⟨p, h1⟩
    obtain ⟨q, hq⟩ := chooseN (0, 0) each
    have hlen : ((List.range len).map q).length = len := by simp
    refine ⟨some x, len, cap, (List.range len).map q, rfl, hlen, ?_, (fun e => by cases e), by rw [hlen]; omega, by rw [hlen]; exact hl⟩
    by_cases h0 : 0 < len
    · right
      have cell : ∀ i, i < len → ∀ j u, (rnV (q i))[j]? = some u → W.cell? ((x.add (i * 2)).add j) = some u := fun i hi j u hu => by
        obtain ⟨_, hlen, hcc⟩ := World.cells?_some (hq i hi)
        have hj : j < 2 := (List.getElem?_eq_some_iff.1 hu).1
        rw [hcc j hj, hu]
      have hs := off_noneN (W := W) (x := x.add (0 * 2)) (cell 0 h0 0 _ rfl)
      obtain ⟨b, off, sp⟩ := x
      rw [Nat.zero_mul] at hs
      have hs' : sp = none := by simpa [Addr.add] using hs
      subst hs'
      refine ⟨b, off, rfl, fun k hk => ?_⟩
      have hk' : k < len := by simpa using hk
      have e : nthY ((List.range len).map q) k = q k := by rw [nthY_getU hk, List.getElem_map, List.getElem_range]
      rw [e]
      have key : ∀ j u, (rnV (q k))[j]? = some u → W.cell? ⟨b, off + k * 2 + j, none⟩ = some u := fun j u hu => by
        have cc := cell k hk' j u hu
        rw [Addr.add_lit, Addr.add_lit] at cc
        exact cc
      exact ⟨key 0 _ rfl, key 1 _ rfl⟩
    · left
      have e : len = 0 := by omega
      subst e
      rfl
end
end Go.Proofs.Ytigaimkflngneaa
