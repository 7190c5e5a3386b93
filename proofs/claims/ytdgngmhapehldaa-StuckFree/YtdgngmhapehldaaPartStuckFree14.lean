/- Texts of one chain, laid one behind the other. -/
import Derived.Test.YtdgngmhapehldaaPartStuckFree12
import Derived.Test.YtdgngmhapehldaaPartStuckFree13
import Derived.Deep.SlicePairs
import Derived.SizedLaws
namespace Go.Proofs.Ytdgngmhapehldaa
open Go.ChangeShapes Go.WideShapes Go.ChangeAt Go.RowKit
theorem Try.cellsBk : Try.prog.cellsOf 42 = 3 := by kernel_rfl
/-- What a walk is told of blocks that came in. -/
structure ArgK (w : World) (a : Option Addr) (len cap : Nat) (L : List BK) : Prop where
  len : L.length = len
  lies : AtK w a L
  none : a = Option.none → L.length = 0 ∧ cap = 0
  room : L.length * 24 ≤ 140737488351232
  cap : L.length ≤ cap
  ins : ∀ b ∈ L, InK b
theorem ArgK.below {w w' : World} {a : Option Addr} {len cap : Nat} {L : List BK} (h : ArgK w a len cap L) (hb : Below w.heap.size w w') : ArgK w' a len cap L := ⟨h.len, h.lies.below hb, h.none, h.room, h.cap, h.ins⟩
def bkL (b : BK) : List Value := [.int .i64 b.n, .int .i64 b.f, .int .i64 b.a]
section
variable {H : Type} {enc : TypeId × Value → H} {W : World} {base : Nat} {held : Bool}
set_option maxRecDepth 100000 in
theorem bk_open {n : Nat} {cs : List Value} {y : DataW H × List MemPlace} (h : DataW.trod enc Try.prog W base (fun _ => true) held n 42 cs = some y) : ∃ p : BK, cs = bkL p ∧ InK p := by
  obtain ⟨xs, k, hk, hxy, hcl, hxl, hf⟩ := DataW.trod_struct Try.underlying42 h
  rw [Try.cellsBk] at hcl
  match xs, hxl, cs, hcl with
  | [y0, y1, y2], _, [v0, v1, v2], _ =>
    have g0 := hf 0 _ rfl
    have g1 := hf 1 _ rfl
    have g2 := hf 2 _ rfl
    simp [Try.cells3N] at g0 g1 g2
    obtain ⟨z0, q0, -, u0⟩ := DataW.trod_int Try.underlying3 g0
    obtain ⟨z1, q1, -, u1⟩ := DataW.trod_int Try.underlying3 g1
    obtain ⟨z2, q2, -, u2⟩ := DataW.trod_int Try.underlying3 g2
    simp only [List.cons.injEq, and_true] at q0 q1 q2
    subst q0 q1 q2
    exact ⟨⟨z0, z1, z2⟩, rfl, bounds_i64 u0, bounds_i64 u1, bounds_i64 u2⟩
set_option maxRecDepth 100000 in
theorem block_open {r : Reach} {b0 : Nat} {v : Value} {d : DataW H} {p : List MemPlace} (hv : Value.okWide Try.prog W r b0 42 v) (h : DataW.Trod enc Try.prog W base (fun _ => true) held 42 v d p) : ∃ b : BK, v = bkV b ∧ InK b := by
  obtain ⟨cs, rfl, hsz⟩ := okWide_struct Try.underlying42 hv
  obtain ⟨fuel, hf⟩ := h
  obtain ⟨b, h1, h2⟩ := bk_open hf
  refine ⟨b, ?_, h2⟩
  have e : cs.toList = bkL b := h1
  unfold bkV bkA
  obtain ⟨l⟩ := cs
  simp only at e
  rw [e]
  rfl
end
end Go.Proofs.Ytdgngmhapehldaa
