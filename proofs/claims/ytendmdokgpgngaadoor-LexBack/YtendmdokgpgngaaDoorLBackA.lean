/- Tokens that come in; what is written between two; rows of bytes (LexBack). -/
import Derived.Test.YtendmdokgpgngaaDoorLBackM
import Derived.Test.YtendmdokgpgngaaDoorLReadAt
import Derived.Lib.AppendStr
import Derived.Laws.BytesArg
import Derived.Deep.SlicePairs
namespace Go.Proofs.YtendmdokgpgngaaDoor
open Go.ChangeShapes Go.WideShapes Go.ChangeAt Go.RowKit

theorem Tryd.bytesTK : Tryd.prog.bytesOf 33 = 40 := by kernel_rfl
theorem Tryd.cellsTK : Tryd.prog.cellsOf 33 = 4 := by kernel_rfl
theorem Tryd.cellsSO : Tryd.prog.cellsOf 31 = 1 := by kernel_rfl
theorem Tryd.cells9' : Tryd.prog.cellsOf 9 = 1 := by kernel_rfl
theorem Tryd.cells3t : Tryd.prog.cellsOf 3 = 1 := by kernel_rfl
theorem Tryd.info5 : (Tryd.prog.info? 5).map (fun i => (i.zero, i.size, i.bytes)) = some (some (.int .u8 0), 1, 1) := by kernel_rfl
/-- What a walk is told of a slice of tokens that came in. -/
structure ArgT (w : World) (a : Option Addr) (len cap : Nat) (ts : List Tok) : Prop where
  size : ts.length = len
  lies : AtT w a ts
  nums : ∀ k, k < len → fits8 (nthT ts k).num = true
  reach : len ≤ 140737488351232
theorem argT_nil {w : World} : ArgT w none 0 0 [] := ⟨rfl, Or.inl rfl, fun k h => by omega, by decide⟩
theorem str_eta (S : ByteArray) : str S.data.toList = S := rfl
theorem choose_of {α : Type} {n : Nat} {p : Nat → α → Prop} (d : α) (h : ∀ i, i < n → ∃ a, p i a) : ∃ f : Nat → α, ∀ i, i < n → p i (f i) :=
  ⟨fun i => if hi : i < n then (h i hi).choose else d, fun i hi => by simp only [hi, dif_pos]; exact (h i hi).choose_spec⟩
section
variable {H : Type} {enc : TypeId × Value → H} {W : World} {base : Nat} {held : Bool}
theorem quad_at {P : Program} {w : World} {spare : Nat → Bool} {e : TypeId} {f0 f1 f2 f3 : Field} (he : P.underlying e = some (.struct #[f0, f1, f2, f3])) (o0 : f0.offset = 0) (o1 : f1.offset = 1) (o2 : f2.offset = 2) (o3 : f3.offset = 3)
    (c0 : P.cellsOf f0.type = 1) (c1 : P.cellsOf f1.type = 1) (c2 : P.cellsOf f2.type = 1) (c3 : P.cellsOf f3.type = 1) {a : Addr} {i n : Nat} {cs' : List Value} {x : DataW H × List MemPlace}
    (h1 : w.cells? base (a.add (i * 4)) 4 = some cs') (h2 : DataW.trod enc P w base spare held n e cs' = some x) :
    ∃ v0 v1 v2 v3 y0 y1 y2 y3 k, w.cell? (a.add (i * 4)) = some v0 ∧ w.cell? (a.add (i * 4 + 1)) = some v1 ∧ w.cell? (a.add (i * 4 + 2)) = some v2 ∧ w.cell? (a.add (i * 4 + 3)) = some v3 ∧
      DataW.trod enc P w base spare held k f0.type [v0] = some y0 ∧ DataW.trod enc P w base spare held k f1.type [v1] = some y1 ∧ DataW.trod enc P w base spare held k f2.type [v2] = some y2 ∧ DataW.trod enc P w base spare held k f3.type [v3] = some y3 := by
  obtain ⟨_, hlen, hcell⟩ := World.cells?_some h1
  obtain ⟨xs, k, hk, hxy, _, hxl, hf⟩ := DataW.trod_struct he h2
  match xs, hxl, cs', hlen with
  | [y0, y1, y2, y3], _, [v0, v1, v2, v3], _ =>
    have g0 := hf 0 f0 rfl
    have g1 := hf 1 f1 rfl
    have g2 := hf 2 f2 rfl
    have g3 := hf 3 f3 rfl
    simp [o0, o1, o2, o3, c0, c1, c2, c3] at g0 g1 g2 g3
    have e0 := hcell 0 (by omega)
    have e1 := hcell 1 (by omega)
    have e2 := hcell 2 (by omega)
    have e3 := hcell 3 (by omega)
    rw [Deep.add_add] at e0 e1 e2 e3
    exact ⟨v0, v1, v2, v3, y0, y1, y2, y3, k, by simpa using e0, by simpa using e1, by simpa using e2, by simpa using e3, g0, g1, g2, g3⟩
set_option maxRecDepth 100000 in
theorem toks_open {a : Option Addr} {len cap : Nat} {d : DataW H} {p : List MemPlace} (h : DataW.Trod enc Tryd.prog W base (fun _ => true) held 22 (.slice a len cap) d p) :
    (a = none ∧ len = 0 ∧ cap = 0) ∨ (a ≠ none ∧ len ≤ cap ∧ ∃ ts : List Tok, ts.length = len ∧ AtT W a ts ∧ (∀ k, k < len → fits8 (nthT ts k).num = true) ∧ ∃ l1 l2 : List (DataW H), d = .slice l1 l2 ∧ l1.length = len) := by
  obtain ⟨fuel, hf⟩ := h
  rcases Deep.open_slice Tryd.underlying22 hf with ⟨h1, -⟩ | ⟨x, l, c, m, n, D, Pl, h1, -, hl, -, hm, hd, hx⟩
  · simp [Value.cells] at h1
    exact .inl h1
  · simp [Value.cells] at h1
    obtain ⟨rfl, rfl, rfl⟩ := h1
    right
    have hml : len ≤ m := by rw [hm]; simp; exact hl
    have each : ∀ i, i < len → ∃ t : Tok, W.cell? (x.add (i * 4)) = some (.int .u8 t.sort) ∧ W.cell? (x.add (i * 4 + 1)) = some (.string (str t.text)) ∧ W.cell? (x.add (i * 4 + 2)) = some (.int .i64 t.num) ∧ W.cell? (x.add (i * 4 + 3)) = some (.int .i64 t.place) ∧ fits8 t.num = true := by
      intro i hi
      obtain ⟨cs', h1, h2⟩ := hx i (by omega)
      rw [Tryd.cellsTK] at h1
      obtain ⟨v0, v1, v2, v3, y0, y1, y2, y3, k, e0, e1, e2, e3, g0, g1, g2, g3⟩ := quad_at Tryd.underlying33 rfl rfl rfl rfl Tryd.cellsSO Tryd.cells9' Tryd.cells3t Tryd.cells3t h1 h2
      obtain ⟨z0, q0, -, -⟩ := DataW.trod_int Tryd.underlying31 g0
      obtain ⟨z1, q1, -⟩ := DataW.trod_string Tryd.underlying9 g1
      obtain ⟨z2, q2, -, b2⟩ := DataW.trod_int Tryd.underlying3 g2
      obtain ⟨z3, q3, -, -⟩ := DataW.trod_int Tryd.underlying3 g3
      simp only [List.cons.injEq, and_true] at q0 q1 q2 q3
      subst q0 q1 q2 q3
      refine ⟨⟨z0, z1.data.toList, z2, z3⟩, e0, e1, e2, e3, ?_⟩
      have := bounds_i64 b2
      unfold fits8
      rw [decide_eq_true this.1, decide_eq_true this.2]
      rfl
    obtain ⟨q, hq⟩ := choose_of noTok each
    have hn : ∀ k, k < len → nthT ((List.range len).map q) k = q k := fun k hk => by
      unfold nthT; rw [List.getD_eq_getElem?_getD, List.getElem?_map, List.getElem?_range hk]; rfl
    refine ⟨by simp, hl, (List.range len).map q, by simp, ?_, fun k hk => by rw [hn k hk]; exact (hq k hk).2.2.2.2, _, _, congrArg Prod.fst hd, by simp⟩
    by_cases h0 : 0 < len
    · obtain ⟨b, off, sp⟩ := x
      have hsp : sp = none := by
        have := (hq 0 h0).1
        cases sp with
        | none => rfl
        | some s => simp [World.cell?, Addr.add] at this; split at this <;> cases this
      subst hsp
      refine .inr ⟨b, off, rfl, fun k hk => ?_⟩
      have hk' : k < len := by simpa using hk
      have hc := hq k hk'
      rw [hn k hk']
      rw [Addr.add_lit, Addr.add_lit, Addr.add_lit, Addr.add_lit] at hc
      exact ⟨hc.1, hc.2.1, hc.2.2.1, hc.2.2.2.1⟩
    · have e : len = 0 := by omega
      subst e
      exact .inl rfl
end
theorem between_any (k : Nat) (hk : k ≤ 100000) (w : World) : Calls Tryd.prog 18 #[.int .i64 (k : Int)] w fun e w' => e = .returned (.string (str (gapS k))) ∧ w = w' := by
  have t1 : (k : Int).tmod 5 = ((k % 5 : Nat) : Int) := by rw [Int.tmod_eq_emod_of_nonneg (by omega)]; omega
  have t2 : (k : Int) % 5 = ((k % 5 : Nat) : Int) := by omega
  have hr : k % 5 < 5 := by omega
  unfold gapS
  generalize k % 5 = r at *
  match r, hr with
  | 0, _ =>
    go_enter Tryd.func18, Tryd.ntmps18
    go_wp2
    go_ret
    exact ⟨rfl, rfl⟩
  | 1, _ =>
    go_enter Tryd.func18, Tryd.ntmps18
    go_wp2
    go_ret
    exact ⟨rfl, rfl⟩
  | 2, _ =>
    go_enter Tryd.func18, Tryd.ntmps18
    go_wp2
    go_ret
    exact ⟨rfl, rfl⟩
  | 3, _ =>
    go_enter Tryd.func18, Tryd.ntmps18
    go_wp2
    go_ret
    exact ⟨rfl, rfl⟩
  | 4, _ =>
    go_enter Tryd.func18, Tryd.ntmps18
    go_wp2
    go_ret
    exact ⟨rfl, rfl⟩
/-- A row of bytes of a call's own. -/
def OwnB (base : Nat) (w : World) (v : Value) (l : List UInt8) : Prop := w.ownsRow base 5 1 v l.length (Lib.strCells (str l))
theorem strCells_str (l : List UInt8) : Lib.strCells (str l) = l.map fun b => Value.int .u8 (b.toNat : Int) := by
  unfold Lib.strCells
  simp [str]
end Go.Proofs.YtendmdokgpgngaaDoor
