/- Texts of one chain, laid one behind the other. -/
import Derived.Test.YtdgngmhapehldaaPartStuckConfirms11
import Derived.Test.YtdgngmhapehldaaPartStuckConfirms12
import Derived.Deep.SlicePairs
import Derived.SizedLaws
namespace Go.Proofs.Ytdgngmhapehldaa
open Go.ChangeShapes Go.WideShapes Go.ChangeAt Go.RowKit
theorem Try.cellsBk : Try.prog.cellsOf 42 = 3 := by kernel_rfl
theorem Try.bytesBk : Try.prog.bytesOf 42 = 24 := by kernel_rfl
/-- What a walk is told of blocks that came in. -/
structure ArgK (w : World) (a : Option Addr) (len cap : Nat) (L : List BK) : Prop where
  len : L.length = len
  lies : AtK w a L
  none : a = Option.none → L.length = 0 ∧ cap = 0
  room : L.length * 24 ≤ 140737488351232
  cap : L.length ≤ cap
  ins : ∀ b ∈ L, InK b
theorem ArgK.below {w w' : World} {a : Option Addr} {len cap : Nat} {L : List BK} (h : ArgK w a len cap L) (hb : Below w.heap.size w w') : ArgK w' a len cap L := ⟨h.len, h.lies.below hb, h.none, h.room, h.cap, h.ins⟩
def bkL (b : BK) : List Value := [.int .i64 b.n, .int .i64 b.f, .int .i64 b.a]
section
variable {H : Type} {enc : TypeId × Value → H} {W : World} {base : Nat} {held : Bool}
set_option maxRecDepth 100000 in
theorem bk_open {n : Nat} {cs : List Value} {y : DataW H × List MemPlace} (h : DataW.trod enc Try.prog W base (fun _ => true) held n 42 cs = some y) : ∃ p : BK, cs = bkL p ∧ InK p := by
  obtain ⟨xs, k, hk, hxy, hcl, hxl, hf⟩ := DataW.trod_struct Try.underlying42 h
  rw [Try.cellsBk] at hcl
  match xs, hxl, cs, hcl with
  | [y0, y1, y2], _, [v0, v1, v2], _ =>
    have g0 := hf 0 _ rfl
    have g1 := hf 1 _ rfl
    have g2 := hf 2 _ rfl
    simp [Try.cells3N] at g0 g1 g2
    obtain ⟨z0, q0, -, u0⟩ := DataW.trod_int Try.underlying3 g0
    obtain ⟨z1, q1, -, u1⟩ := DataW.trod_int Try.underlying3 g1
    obtain ⟨z2, q2, -, u2⟩ := DataW.trod_int Try.underlying3 g2
    simp only [List.cons.injEq, and_true] at q0 q1 q2
    subst q0 q1 q2
    exact ⟨⟨z0, z1, z2⟩, rfl, bounds_i64 u0, bounds_i64 u1, bounds_i64 u2⟩
set_option maxRecDepth 100000 in
theorem blocks_open {n : Nat} {v : Value} {y : DataW H × List MemPlace} (h : DataW.trod enc Try.prog W base (fun _ => true) held n 25 [v] = some y) (hw : (y.1.weights Try.prog 25).all (· ≤ reachBytes) = true) :
    ∃ (a : Option Addr) (len cap : Nat) (L : List BK), v = .slice a len cap ∧ ArgK W a len cap L := by
  rcases Deep.open_slice Try.underlying25 h with ⟨h1, -⟩ | ⟨x, len, cap, m, n, D, Pl, h1, -, hl, -, hm, hd, hx⟩
  · simp only [List.cons.injEq, and_true] at h1
    subst h1
    exact ⟨none, 0, 0, [], rfl, rfl, .inl rfl, fun _ => ⟨rfl, rfl⟩, by decide, Nat.le_refl _, fun b hb => by cases hb⟩
  · simp only [List.cons.injEq, and_true] at h1
    subst h1
    simp only [if_true] at hm
    rw [hd] at hw
    simp only [DataW.weights, Try.underlying25, List.all_cons, List.all_append, Bool.and_eq_true, decide_eq_true_eq, Try.bytesBk] at hw
    obtain ⟨wr, we, -⟩ := hw
    simp only [reachBytes, List.length_map, List.length_range] at wr
    have each : ∀ i, i < len → ∃ p : BK, W.cells? base (x.add (i * 3)) 3 = some (bkL p) ∧ InK p := by
      intro i hi
      obtain ⟨cs', h1, h2⟩ := hx i (by omega)
      rw [Try.cellsBk] at h1
      obtain ⟨p, rfl, hp⟩ := bk_open h2
      exact ⟨p, h1, hp⟩
    obtain ⟨q, hq⟩ := chooseN (⟨0, 0, 0⟩ : BK) each
    have hlen : ((List.range len).map q).length = len := by simp
    refine ⟨some x, len, cap, (List.range len).map q, rfl, hlen, ?_, (fun e => by cases e), by rw [hlen]; omega, by rw [hlen]; exact hl, fun b hb => ?_⟩
    · by_cases h0 : 0 < len
      · right
        have cell : ∀ i, i < len → ∀ j u, (bkL (q i))[j]? = some u → W.cell? ((x.add (i * 3)).add j) = some u := fun i hi j u hu => by
          obtain ⟨_, hlen, hcc⟩ := World.cells?_some (hq i hi).1
          have hj : j < 3 := (List.getElem?_eq_some_iff.1 hu).1
          rw [hcc j hj, hu]
        have hs := off_noneN (W := W) (x := x.add (0 * 3)) (cell 0 h0 0 _ rfl)
        obtain ⟨b, off, sp⟩ := x
        rw [Nat.zero_mul] at hs
        have hs' : sp = none := by simpa [Addr.add] using hs
        subst hs'
        refine ⟨b, off, rfl, fun k hk => ?_⟩
        have hk' : k < len := by simpa using hk
        have e : nthBk ((List.range len).map q) k = q k := by rw [nthBk_get hk, List.getElem_map, List.getElem_range]
        rw [e]
        have key : ∀ j u, (bkL (q k))[j]? = some u → W.cell? ⟨b, off + k * 3 + j, none⟩ = some u := fun j u hu => by
          have cc := cell k hk' j u hu
          rw [Addr.add_lit, Addr.add_lit] at cc
          exact cc
        exact ⟨key 0 _ rfl, key 1 _ rfl, key 2 _ rfl⟩
      · left
        have e : len = 0 := by omega
        subst e
        rfl
    · obtain ⟨i, hi, rfl⟩ := List.mem_map.1 hb
      exact (hq i (List.mem_range.1 hi)).2
end
end Go.Proofs.Ytdgngmhapehldaa
