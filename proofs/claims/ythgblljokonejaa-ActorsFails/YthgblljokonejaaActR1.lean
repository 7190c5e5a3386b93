/- The document's New (pianolaref07.New). -/
import Derived.Test.YthgblljokonejaaActD
import Derived.Test.YthgblljokonejaaH3b
namespace Go.Proofs.Ythgblljokonejaa
open Go.ChangeShapes Go.WideShapes Go.ChangeAt Go.RowKit

/-- The document's actor, as it lies: a value of six cells. -/
def RA (t : Nat) (p i o k : Value) (n : Int) : Value := .agg #[.int .u8 (t : Int), p, i, o, k, .int .i64 n]
/-- The document's actor is this one. -/
def IsRA (w : World) (t : Nat) (zs ks : List Int) (n : Nat) (v : Value) : Prop :=
  ∃ p cp i ci o co k ck, v = RA t (.slice p zs.length cp) (.slice i (insS t zs).length ci) (.slice o (outsS t zs).length co) (.slice k ks.length ck) (n : Int) ∧ At w p zs ∧ At w i (insS t zs) ∧ At w o (outsS t zs) ∧ At w k ks
def RNewEnd (w : World) (t : Nat) (zs : List Int) (e : Ending) (w' : World) : Prop :=
  ((ofS t zs).2.2 = 0 ∧ ∃ v, e = .returned (.tuple #[v, .int .i64 0]) ∧ IsRA w' t zs (keepS t zs) 0 v ∧ Below w.heap.size w w') ∨
  ((ofS t zs).2.2 ≠ 0 ∧ e = .returned (.tuple #[.agg #[.int .u8 0, .slice none 0 0, .slice none 0 0, .slice none 0 0, .slice none 0 0, .int .i64 0], .int .i64 (ofS t zs).2.2]) ∧ Below w.heap.size w w')
theorem six_set {w w1 : World} (h : Below w.heap.size w w1) {b : Nat} (hb : w.heap.size ≤ b) (x0 x1 x2 x3 x4 x5 : Value) : Below w.heap.size w ((((((w1.setCell ⟨b, 0, none⟩ x0).setCell ⟨b, 1, none⟩ x1).setCell ⟨b, 2, none⟩ x2).setCell ⟨b, 3, none⟩ x3).setCell ⟨b, 4, none⟩ x4).setCell ⟨b, 5, none⟩ x5) :=
  (((((h.setCell (p := ⟨b, 0, none⟩) hb _).setCell (p := ⟨b, 1, none⟩) hb _).setCell (p := ⟨b, 2, none⟩) hb _).setCell (p := ⟨b, 3, none⟩) hb _).setCell (p := ⟨b, 4, none⟩) hb _).setCell (p := ⟨b, 5, none⟩) hb _
set_option maxRecDepth 100000 in
set_option maxHeartbeats 4000000 in
theorem rnew7_bad (t : Nat) (a : Option Addr) (zs : List Int) (len cap : Nat) (w : World) (ht : t ≤ 255) (hA : Arg w a len cap zs) (hf : (ofS t zs).2.2 ≠ 0) : Calls Try.prog 9 #[.int .u8 (t : Int), .slice a len cap] w (RNewEnd w t zs) := by
  have ba := (Below.refl w.heap.size w).alloc (Nat.le_refl _) (.cells #[.int .u8 0, .slice none 0 0, .slice none 0 0, .slice none 0 0, .slice none 0 0, .int .i64 0] 31)
  have OF := hidden6 (rof_any t a zs len cap _ ht hA.size (hA.lies.below ba))
  have BA := hidden6 ba
  have V4 := hidden6 (blkA_new 31 w #[.int .u8 0, .slice none 0 0, .slice none 0 0, .slice none 0 0, .slice none 0 0, .int .i64 0])
  have HF := hidden6 hf
  unfold OfEnd at OF
  obtain ⟨f, hff⟩ : ∃ f, (ofS t zs).2.2 = f := ⟨_, rfl⟩
  have E2 : Hid ((ofS t zs).2.2 = f) := hff
  rw [hff] at hf
  have q1 : (f != 0) = true := by simpa using hf
  rw [hff] at OF
  generalize (ofS t zs).1 = P at OF
  generalize (ofS t zs).2.1 = Q at OF
  clear hA ba hf hff
  go_enter Try.func9, Try.ntmps9
  go_wp2_with (go_at_call 27; (with_reducible refine OF.out.mono ?_); rintro e w1 ⟨x1, d1, x2, d2, rfl, m1, m2, mx, b1⟩; have Z4 := V4.out.below b1; have z0 := Z4.cell (k := 0) rfl; have z1 := Z4.cell (k := 1) rfl; have z2 := Z4.cell (k := 2) rfl; have z3 := Z4.cell (k := 3) rfl; have z4 := Z4.cell (k := 4) rfl; have z5 := Z4.cell (k := 5) rfl; have f0 := Z4.frozen 0; have f1 := Z4.frozen 1; have f2 := Z4.frozen 2; have f3 := Z4.frozen 3; have f4 := Z4.frozen 4; have f5 := Z4.frozen 5; have BB := hidden6 (BA.out.trans (b1.mono BA.out.size)); have L4 := Z4.lt; clear Z4 m1 m2 mx b1)
  refine bodyPost_ret (v := .tuple #[.agg #[.int .u8 0, .slice none 0 0, .slice none 0 0, .slice none 0 0, .slice none 0 0, .int .i64 0], .int .i64 f]) (by simp [results, Try.results9, go_sem, z0, z1, z2, z3, z4, z5]) rfl ?_
  exact .inr ⟨HF.out, by rw [E2.out], six_set BB.out (Nat.le_refl _) _ _ _ _ _ _⟩
theorem rnew_end {w w2 wf : World} {t b4 len : Nat} {zs : List Int} {p i o k : Option Addr} {cp ci co ck : Nat} {e : Ending} (h0 : ofS t zs = (insS t zs, outsS t zs, 0)) (hl : zs.length = len) (hb2 : Below w.heap.size w w2) (h4 : w.heap.size ≤ b4) (hp : CapR (b4 + 1) w2 p cp zs) (hi : CapR (b4 + 1) w2 i ci (insS t zs)) (ho : CapR (b4 + 1) w2 o co (outsS t zs)) (hk : At wf k (keepS t zs)) (hbut : But b4 w2 wf)
    (he : e = .returned (.tuple #[RA t (.slice p len cp) (.slice i (insS t zs).length ci) (.slice o (outsS t zs).length co) (.slice k (keepS t zs).length ck) 0, .int .i64 0])) : RNewEnd w t zs e wf := by
  subst hl
  have far : ∀ {a : Option Addr} {c : Nat} {l : List Int}, CapR (b4 + 1) w2 a c l → At wf a l := fun h => h.at.block fun x hx => hbut.block _ (h.lt x hx).2 (by have := (h.lt x hx).1; omega)
  exact .inl ⟨by rw [h0], _, he, ⟨p, cp, i, ci, o, co, k, ck, rfl, far hp, far hi, far ho, hk⟩, hb2.trans (hbut.below h4 hb2.size)⟩
end Go.Proofs.Ythgblljokonejaa
