/- Texts of one chain, laid one behind the other. -/
import Derived.Test.YthgblljokonejaaGreatDoorChain27
import Derived.Test.YthgblljokonejaaGreatDoorPartSketchPrints3
import Derived.Lib.AppendStr
import Derived.Laws.BytesArg
import Derived.Deep.SlicePairs
/- Tokens that come in; what is written between two; rows of bytes (LexBack). -/
namespace Go.Proofs.YthgblljokonejaaGreatDoor
open Go.ChangeShapes Go.WideShapes Go.ChangeAt Go.RowKit

theorem Tryz.bytesTK : Tryz.prog.bytesOf 46 = 40 := by kernel_rfl
theorem Tryz.cellsTK : Tryz.prog.cellsOf 46 = 4 := by kernel_rfl
theorem Tryz.cellsSO : Tryz.prog.cellsOf 44 = 1 := by kernel_rfl
theorem Tryz.cells9' : Tryz.prog.cellsOf 9 = 1 := by kernel_rfl
theorem Tryz.cells3t : Tryz.prog.cellsOf 3 = 1 := by kernel_rfl
theorem Tryz.info5 : (Tryz.prog.info? 5).map (fun i => (i.zero, i.size, i.bytes)) = some (some (.int .u8 0), 1, 1) := by kernel_rfl
/-- What a walk is told of a slice of tokens that came in. -/
structure ArgT (w : World) (a : Option Addr) (len cap : Nat) (ts : List Tok) : Prop where
  size : ts.length = len
  lies : AtT w a ts
  nums : ∀ k, k < len → fits8 (nthT ts k).num = true
  reach : len ≤ 140737488351232
theorem argT_nil {w : World} : ArgT w none 0 0 [] := ⟨rfl, Or.inl rfl, fun k h => by omega, by decide⟩
theorem str_eta (S : ByteArray) : str S.data.toList = S := rfl
theorem choose_of {α : Type} {n : Nat} {p : Nat → α → Prop} (d : α) (h : ∀ i, i < n → ∃ a, p i a) : ∃ f : Nat → α, ∀ i, i < n → p i (f i) :=
  ⟨fun i => if hi : i < n then (h i hi).choose else d, fun i hi => by simp only [hi, dif_pos]; exact (h i hi).choose_spec⟩
section
variable {H : Type} {enc : TypeId × Value → H} {W : World} {base : Nat} {held : Bool}
theorem quad_at {P : Program} {w : World} {spare : Nat → Bool} {e : TypeId} {f0 f1 f2 f3 : Field} (he : P.underlying e = some (.struct #[f0, f1, f2, f3])) (o0 : f0.offset = 0) (o1 : f1.offset = 1) (o2 : f2.offset = 2) (o3 : f3.offset = 3)
    (c0 : P.cellsOf f0.type = 1) (c1 : P.cellsOf f1.type = 1) (c2 : P.cellsOf f2.type = 1) (c3 : P.cellsOf f3.type = 1) {a : Addr} {i n : Nat} {cs' : List Value} {x : DataW H × List MemPlace}
    (h1 : w.cells? base (a.add (i * 4)) 4 = some cs') (h2 : DataW.trod enc P w base spare held n e cs' = some x) :
    ∃ v0 v1 v2 v3 y0 y1 y2 y3 k, w.cell? (a.add (i * 4)) = some v0 ∧ w.cell? (a.add (i * 4 + 1)) = some v1 ∧ w.cell? (a.add (i * 4 + 2)) = some v2 ∧ w.cell? (a.add (i * 4 + 3)) = some v3 ∧
      DataW.trod enc P w base spare held k f0.type [v0] = some y0 ∧ DataW.trod enc P w base spare held k f1.type [v1] = some y1 ∧ DataW.trod enc P w base spare held k f2.type [v2] = some y2 ∧ DataW.trod enc P w base spare held k f3.type [v3] = some y3 := by
  obtain ⟨_, hlen, hcell⟩ := World.cells?_some h1
  obtain ⟨xs, k, hk, hxy, _, hxl, hf⟩ := DataW.trod_struct he h2
  match xs, hxl, cs', hlen with
  | [y0, y1, y2, y3], _, [v0, v1, v2, v3], _ =>
    have g0 := hf 0 f0 rfl
    have g1 := hf 1 f1 rfl
    have g2 := hf 2 f2 rfl
    have g3 := hf 3 f3 rfl
    simp [o0, o1, o2, o3, c0, c1, c2, c3] at g0 g1 g2 g3
    have e0 := hcell 0 (by omega)
    have e1 := hcell 1 (by omega)
    have e2 := hcell 2 (by omega)
    have e3 := hcell 3 (by omega)
    rw [Deep.add_add] at e0 e1 e2 e3
    exact ⟨v0, v1, v2, v3, y0, y1, y2, y3, k, by simpa using e0, by simpa using e1, by simpa using e2, by simpa using e3, g0, g1, g2, g3⟩
set_option maxRecDepth 100000 in
theorem toks_open {a : Option Addr} {len cap : Nat} {d : DataW H} {p : List MemPlace} (h : DataW.Trod enc Tryz.prog W base (fun _ => true) held 37 (.slice a len cap) d p) :
    (a = none ∧ len = 0 ∧ cap = 0) ∨ (a ≠ none ∧ len ≤ cap ∧ ∃ ts : List Tok, ts.length = len ∧ AtT W a ts ∧ (∀ k, k < len → fits8 (nthT ts k).num = true) ∧ ∃ l1 l2 : List (DataW H), d = .slice l1 l2 ∧ l1.length = len) := by
  obtain ⟨fuel, hf⟩ := h
  rcases Deep.open_slice Tryz.underlying37 hf with ⟨h1, -⟩ | ⟨x, l, c, m, n, D, Pl, h1, -, hl, -, hm, hd, hx⟩
  · simp [Value.cells] at h1
    exact .inl h1
  · simp [Value.cells] at h1
    obtain ⟨rfl, rfl, rfl⟩ := h1
    right
    have hml : len ≤ m := by rw [hm]; simp; exact hl
    have each : ∀ i, i < len → ∃ t : Tok, W.cell? (x.add (i * 4)) = some (.int .u8 t.sort) ∧ W.cell? (x.add (i * 4 + 1)) = some (.string (str t.text)) ∧ W.cell? (x.add (i * 4 + 2)) = some (.int .i64 t.num) ∧ W.cell? (x.add (i * 4 + 3)) = some (.int .i64 t.place) ∧ fits8 t.num = true := by
      intro i hi
      obtain ⟨cs', h1, h2⟩ := hx i (by omega)
      rw [Tryz.cellsTK] at h1
      obtain ⟨v0, v1, v2, v3, y0, y1, y2, y3, k, e0, e1, e2, e3, g0, g1, g2, g3⟩ := quad_at Tryz.underlying46 rfl rfl rfl rfl Tryz.cellsSO Tryz.cells9' Tryz.cells3t Tryz.cells3t h1 h2
      obtain ⟨z0, q0, -, -⟩ := DataW.trod_int Tryz.underlying44 g0
      obtain ⟨z1, q1, -⟩ := DataW.trod_string Tryz.underlying9 g1
      obtain ⟨z2, q2, -, b2⟩ := DataW.trod_int Tryz.underlying3 g2
      obtain ⟨z3, q3, -, -⟩ := DataW.trod_int Tryz.underlying3 g3
      simp only [List.cons.injEq, and_true] at q0 q1 q2 q3
      subst q0 q1 q2 q3
      refine ⟨⟨z0, z1.data.toList, z2, z3⟩, e0, e1, e2, e3, ?_⟩
      have := bounds_i64 b2
      unfold fits8
      rw [decide_eq_true this.1, decide_eq_true this.2]
      rfl
    obtain ⟨q, hq⟩ := choose_of noTok each
    have hn : ∀ k, k < len → nthT ((List.range len).map q) k = q k := fun k hk => by
      unfold nthT; rw [List.getD_eq_getElem?_getD, List.getElem?_map, List.getElem?_range hk]; rfl
    refine ⟨by simp, hl, (List.range len).map q, by simp, ?_, fun k hk => by rw [hn k hk]; exact (hq k hk).2.2.2.2, _, _, congrArg Prod.fst hd, by simp⟩
    by_cases h0 : 0 < len
    · obtain ⟨b, off, sp⟩ := x
      have hsp : sp = none := by
        have := (hq 0 h0).1
        cases sp with
        | none => rfl
        | some s => simp [World.cell?, Addr.add] at this; split at this <;> cases this
      subst hsp
      refine .inr ⟨b, off, rfl, fun k hk => ?_⟩
      have hk' : k < len := by simpa using hk
      have hc := hq k hk'
      rw [hn k hk']
      rw [Addr.add_lit, Addr.add_lit, Addr.add_lit, Addr.add_lit] at hc
      exact ⟨hc.1, hc.2.1, hc.2.2.1, hc.2.2.2.1⟩
    · have e : len = 0 := by omega
      subst e
      exact .inl rfl
end
/-- A row of bytes of a call's own. -/
def OwnB (base : Nat) (w : World) (v : Value) (l : List UInt8) : Prop := w.ownsRow base 5 1 v l.length (Lib.strCells (str l))
theorem strCells_str (l : List UInt8) : Lib.strCells (str l) = l.map fun b => Value.int .u8 (b.toNat : Int) := by
  unfold Lib.strCells
  simp [str]
end Go.Proofs.YthgblljokonejaaGreatDoor

/- Tokens that are written are read as these, each at its place (LexBack). -/
namespace Go.Proofs.YthgblljokonejaaGreatDoor
open Go.ChangeShapes Go.WideShapes Go.ChangeAt Go.RowKit

/-! ### Two rows that grow beside each other -/
theorem row_kept {w w' : World} {base e size n : Nat} {v : Value} {xs : List Value} {row : Option Nat} (h : w.ownsRow base e size v n xs) (hg : w.grownBy w' row) (hne : v.ownBlock = none ∨ v.ownBlock ≠ row) : w'.ownsRow base e size v n xs := World.ownsRow.kept h hg hne
theorem row_below {w w' : World} {base e size n : Nat} {v : Value} {xs : List Value} (h : w.ownsRow base e size v n xs) (hb : Below w.heap.size w w') : w'.ownsRow base e size v n xs := by
  refine ⟨h.1, ?_⟩
  rcases h.2 with h2 | ⟨g, cap, cur, hv, hg, hh, r⟩
  · exact .inl h2
  · refine .inr ⟨g, cap, cur, hv, hg, ?_, r⟩
    rw [hb.block g (Array.getElem?_eq_some_iff.1 hh).1]; exact hh
theorem row_low {w : World} {base e size n : Nat} {v : Value} {xs : List Value} (h : w.ownsRow base e size v n xs) : ∀ k, v.ownBlock = some k → base ≤ k ∧ k < w.heap.size := by
  intro k hk
  rcases h.2 with ⟨rfl, -⟩ | ⟨g, cap, cur, rfl, hg, hh, -⟩
  · cases hk
  · cases hk
    exact ⟨hg, (Array.getElem?_eq_some_iff.1 hh).1⟩
theorem row_apart {w : World} {b1 b2 e1 e2 s1 s2 n1 n2 : Nat} {v1 v2 : Value} {x1 x2 : List Value} (h1 : w.ownsRow b1 e1 s1 v1 n1 x1) (h2 : w.ownsRow b2 e2 s2 v2 n2 x2) (he : e1 ≠ e2) : v1.ownBlock = none ∨ v1.ownBlock ≠ v2.ownBlock := by
  rcases h1.2 with ⟨rfl, -⟩ | ⟨g1, c1, u1, rfl, -, hh1, -⟩
  · exact Or.inl rfl
  · right
    intro e
    rcases h2.2 with ⟨rfl, -⟩ | ⟨g2, c2, u2, rfl, -, hh2, -⟩
    · cases e
    · have : g1 = g2 := Option.some.inj e
      subst this
      rw [hh1] at hh2
      cases hh2
      exact he rfl
structure R2 (w : World) (vb : Value) (l : List UInt8) (vw : Value) (ts : List Tok) (wr : World) : Prop where
  bytes : OwnB w.heap.size wr vb l
  toks : Toks w.heap.size wr vw ts
  bel : Below w.heap.size w wr
theorem R2.below {w vb l vw ts wr w'} (h : R2 w vb l vw ts wr) (hb : Below wr.heap.size wr w') : R2 w vb l vw ts w' := ⟨row_below h.bytes hb, h.toks.below hb, h.bel.trans (hb.mono h.bel.size)⟩
theorem R2.tokA {w vb l vw ts wr v' w' t} (h : R2 w vb l vw ts wr) (ho : w'.ownsRow w.heap.size 46 4 v' (ts.length + 1) (ts.flatMap tokC ++ tokC t)) (hg : wr.grownBy w' vw.ownBlock) : R2 w vb l v' (ts ++ [t]) w' :=
  ⟨row_kept h.bytes hg (row_apart h.bytes h.toks (by decide)), Toks.snoc ho, below_grownO h.bel hg (fun k e => (row_low h.toks k e).1) h.bel.size⟩
theorem cells_append (l m : List UInt8) : Lib.strCells (str (l ++ m)) = Lib.strCells (str l) ++ Lib.strCells (str m) := by
  rw [strCells_str, strCells_str, strCells_str, List.map_append]
theorem R2.strA {w vb l vw ts wr v' w'} {m : List UInt8} (h : R2 w vb l vw ts wr) (ho : w'.ownsRow w.heap.size 5 1 v' (l.length + (str m).size) (Lib.strCells (str l) ++ Lib.strCells (str m))) (hg : wr.grownBy w' vb.ownBlock) : R2 w v' (l ++ m) vw ts w' := by
  refine ⟨?_, row_kept h.toks hg ?_, below_grownO h.bel hg (fun k e => (row_low h.bytes k e).1) h.bel.size⟩
  · unfold OwnB
    rw [cells_append, List.length_append, ← str_size m]
    exact ho
  · exact row_apart h.toks h.bytes (by decide)
theorem R2.shapeB {w vb l vw ts wr} (h : R2 w vb l vw ts wr) : ∃ a cap, vb = .slice a l.length cap := by
  rcases h.bytes.2 with ⟨h1, h2⟩ | ⟨g, cap, cur, rfl, -⟩
  · exact ⟨none, 0, by rw [h1, h2]⟩
  · exact ⟨_, cap, rfl⟩
theorem conv_bytes {base : Nat} {w : World} {v : Value} {l : List UInt8} (h : OwnB base w v l) : (convert 67 9 v).run Tryz.prog w = .ok (.string (str l)) w := by
  have h0 := h
  rcases h.2 with ⟨rfl, h2⟩ | ⟨g, cap, cur, rfl, hg, hh, -⟩
  · have e : l = [] := List.eq_nil_of_length_eq_zero h2
    subst e
    exact run_convert_bytes_nil w 67 5 Tryz.underlying67 Tryz.underlying5 0 0 9 Tryz.underlying9
  · refine run_convert_bytes_back w 67 9 5 ⟨g, 0, none⟩ cap l Tryz.underlying67 Tryz.underlying5 Tryz.underlying9 (fun j hj => ?_)
    refine World.ownsRow.cells h0 (g := g) rfl j _ ?_
    rw [strCells_str, List.getElem?_map, List.getElem?_eq_getElem hj]
    rfl

/-! ### What is written, one token more -/
def wantH : Nat → List (Tok × List UInt8) → List Tok
  | _, [] => []
  | p, x :: r => { x.1 with place := (p : Int) } :: wantH (p + (spelt x.1).length + x.2.length) r
theorem txt_snoc : ∀ (ps : List (Tok × List UInt8)) (x : Tok × List UInt8), txt (ps ++ [x]) = txt ps ++ (spelt x.1 ++ x.2)
  | [], x => by simp [txt]
  | y :: r, x => by
    rw [List.cons_append, txt, txt, txt_snoc r x]
    simp only [List.append_assoc]
theorem want_snoc : ∀ (ps : List (Tok × List UInt8)) (x : Tok × List UInt8) (p : Nat), wantH p (ps ++ [x]) = wantH p ps ++ [{ x.1 with place := ((p + (txt ps).length : Nat) : Int) }]
  | [], x, p => rfl
  | y :: r, x, p => by
    rw [List.cons_append, wantH, wantH, want_snoc r x, List.cons_append]
    have e : p + (spelt y.1).length + y.2.length + (txt r).length = p + (txt (y :: r)).length := by
      rw [txt, List.length_append, List.length_append]; omega
    rw [e]
theorem want_end : ∀ (ps : List (Tok × List UInt8)) (p : Nat), wantT p ps = wantH p ps ++ [⟨0, [], 0, ((p + (txt ps).length : Nat) : Int)⟩]
  | [], p => rfl
  | y :: r, p => by
    rw [wantT, wantH, want_end r, List.cons_append]
    have e : p + (spelt y.1).length + y.2.length + (txt r).length = p + (txt (y :: r)).length := by
      rw [txt, List.length_append, List.length_append]; omega
    rw [e]
theorem want_len : ∀ (ps : List (Tok × List UInt8)) (p : Nat), (∀ x ∈ ps, okP x) → (wantH p ps).length ≤ (txt ps).length
  | [], _, _ => Nat.le_refl _
  | y :: r, p, h => by
    obtain ⟨-, -, k, hk⟩ := h y (by simp)
    have h1 := want_len r (p + (spelt y.1).length + y.2.length) (fun x hx => h x (by simp [hx]))
    have h2 := (gap_facts k []).2.2.1
    rw [← hk] at h2
    rw [wantH, txt, List.length_cons, List.length_append, List.length_append]
    omega
theorem spelt_len {t : Tok} (h : rightB t = true) (hf : fits8 t.num = true) : (spelt t).length ≤ 20 := by
  obtain ⟨so, tx, nm, pl⟩ := t
  unfold rightB at h
  unfold spelt
  simp only at h hf ⊢
  by_cases h1 : so = 1
  · subst h1
    rw [if_pos rfl, Bool.and_eq_true] at h
    rw [if_neg (by decide)]
    have := h.2
    unfold nameB at this
    rw [Bool.and_eq_true, decide_eq_true_iff] at this
    omega
  rw [if_neg h1] at h
  by_cases h2 : so = 2
  · rw [if_pos h2]
    unfold fits8 at hf
    rw [Bool.and_eq_true, decide_eq_true_iff, decide_eq_true_iff] at hf
    unfold intS
    split
    · decide
    · have h5 := natS_len 19 nm.natAbs (by omega)
      rw [List.length_append]
      have : (sgn (decide (nm < 0))).length ≤ 1 := by cases decide (nm < 0) <;> decide
      omega
  rw [if_neg h2] at h ⊢
  by_cases h3 : so = 3
  · rw [if_pos h3, Bool.and_eq_true] at h
    have hm := h.2
    unfold markT at hm
    simp only [Bool.or_eq_true, decide_eq_true_eq] at hm
    rcases hm with ((((h | h) | h) | h) | h) | h <;> subst h <;> decide
  · rw [if_neg h3] at h; cases h

theorem tok_news1 (w : World) (c0 c1 c2 c3 : Value) (t : TypeId) : ∀ j u, [c0, c1, c2, c3][j]? = some u → (w.alloc (.cells #[c0, c1, c2, c3] t)).cell? ((⟨w.heap.size, 0, none⟩ : Addr).add j) = some u := by
  intro j u hu
  match j, hu with
  | 0, hu => simp at hu; subst hu; simp [Addr.add]
  | 1, hu => simp at hu; subst hu; simp [Addr.add]
  | 2, hu => simp at hu; subst hu; simp [Addr.add]
  | 3, hu => simp at hu; subst hu; simp [Addr.add]
end Go.Proofs.YthgblljokonejaaGreatDoor
