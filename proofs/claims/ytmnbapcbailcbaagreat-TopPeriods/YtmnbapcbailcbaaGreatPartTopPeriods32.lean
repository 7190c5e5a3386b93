/- Texts of one chain, laid one behind the other. -/
import Derived.Test.YtmnbapcbailcbaaGreatPartTopPeriods31
import Derived.Test.YtmnbapcbailcbaaGreatPartTopPeriods18
import Derived.Test.YtmnbapcbailcbaaGreatPartTopPeriods14
namespace Go.Proofs.YtmnbapcbailcbaaGreat
open Go.ChangeShapes Go.WideShapes Go.ChangeAt Go.RowKit
structure Plc where
  name : List UInt8
  port : Int
  place : Int
def noPlc : Plc := ⟨[], 0, 0⟩
structure Itm where
  kind : Int
  name : List UInt8
  tag : List UInt8
  nums : List Int
  frm : Plc
  tgt : Plc
  place : Int
theorem owns_ne {base : Nat} {w : World} {e : TypeId} {size n : Nat} {v : Value} {xs : List Value} (h : w.ownsRow base e size v n xs) {k : Nat} (hk : k < base) : v.ownBlock ≠ some k := by
  rcases h.2 with ⟨rfl, -⟩ | ⟨g, c, cur, rfl, hg, -⟩
  · intro e; cases e
  · intro e; cases e; exact absurd hk (by simpa using hg)
theorem owns_grown {base : Nat} {w w' : World} {e : TypeId} {size n : Nat} {v : Value} {xs : List Value} {b : Nat} (h : w.ownsRow base e size v n xs) (hg : w.grownBy w' (some b)) (hb : b < base) : w'.ownsRow base e size v n xs := World.ownsRow.kept h hg (Or.inr (owns_ne h hb))
theorem owns_below {base : Nat} {w w' : World} {e : TypeId} {size n : Nat} {v : Value} {xs : List Value} (h : w.ownsRow base e size v n xs) (hb : Below w.heap.size w w') : w'.ownsRow base e size v n xs := by
  refine ⟨h.1, ?_⟩
  rcases h.2 with h2 | ⟨g, cap, cur, hv, hg, hh, r⟩
  · exact .inl h2
  · refine .inr ⟨g, cap, cur, hv, hg, ?_, r⟩
    rw [hb.block g (Array.getElem?_eq_some_iff.1 hh).1]; exact hh
theorem owns_mono {base base' : Nat} {w : World} {e : TypeId} {size n : Nat} {v : Value} {xs : List Value} (h : w.ownsRow base e size v n xs) (hb : base' ≤ base) : w.ownsRow base' e size v n xs := by
  refine ⟨h.1, ?_⟩
  rcases h.2 with h2 | ⟨g, cap, cur, hv, hg, r⟩
  · exact .inl h2
  · exact .inr ⟨g, cap, cur, hv, Nat.le_trans hb hg, r⟩
/-- Numbers in a row of a call's own. -/
def Ints (base : Nat) (w : World) (v : Value) (ns : List Int) : Prop := w.ownsRow base 3 1 v ns.length (ns.map (Value.int .i64))
theorem own_row {base : Nat} {w : World} {e : TypeId} {size n : Nat} {v : Value} {xs : List Value} (h : w.ownsRow base e size v n xs) : ∀ k, v.ownBlock = some k → base ≤ k := fun k e => by
  rcases Nat.lt_or_ge k base with h1 | h1
  · exact absurd e (owns_ne h h1)
  · exact h1
/-- An item's cells. -/
def itC (kind : Int) (nm tg : List UInt8) (r : Value) (f t : Plc) (pl : Int) : Array Value :=
  #[.int .u8 kind, .string (str nm), .string (str tg), r, .string (str f.name), .int .i64 f.port, .int .i64 f.place, .string (str t.name), .int .i64 t.port, .int .i64 t.place, .int .i64 pl]
theorem Ints.mono {base base' w r ns} (h : Ints base w r ns) (hb : base' ≤ base) : Ints base' w r ns := owns_mono h hb
theorem Ints.below {base w w' r ns} (h : Ints base w r ns) (hb : Below w.heap.size w w') : Ints base w' r ns := owns_below h hb
theorem Ints.grown {base w w' r ns} {b : Nat} (h : Ints base w r ns) (hg : w.grownBy w' (some b)) (hb : b < base) : Ints base w' r ns := owns_grown h hg hb
theorem Ints.put {base w r ns} (h : Ints base w r ns) {I k : Nat} {u : Value} (hI : I < base) : Ints base (w.setCell ⟨I, k, none⟩ u) r ns := ownsRow_setCell_below h hI u
theorem own_lt {base : Nat} {w : World} {e : TypeId} {size n : Nat} {v : Value} {xs : List Value} (h : w.ownsRow base e size v n xs) : ∀ k, v.ownBlock = some k → k < w.heap.size := fun k hk => by
  rcases h.2 with ⟨rfl, -⟩ | ⟨g, c, cur, rfl, hg, hh, -⟩
  · cases hk
  · cases hk
    exact (Array.getElem?_eq_some_iff.1 hh).1
theorem Ints.kept {base w w' r ns} {row : Option Nat} (h : Ints base w r ns) (hg : w.grownBy w' row) (hr : ∀ k, row = some k → k < base) : Ints base w' r ns := by
  refine World.ownsRow.kept h hg ?_
  by_cases e : r.ownBlock = none
  · exact Or.inl e
  · refine Or.inr (fun e2 => ?_)
    cases hk : r.ownBlock with
    | none => exact e hk
    | some k =>
      have h1 := hr k (by rw [← e2, hk])
      exact owns_ne h h1 hk
def itP (p : Itm × Value) : List Value := (itC p.1.kind p.1.name p.1.tag p.2 p.1.frm p.1.tgt p.1.place).toList
def noItm : Itm := ⟨0, [], [], [], noPlc, noPlc, 0⟩
def nthI (L : List (Itm × Value)) (k : Nat) : Itm × Value := L.getD k (noItm, .slice none 0 0)
structure Cell11 (w : World) (g o : Nat) (p : Itm × Value) : Prop where
  c0 : w.cell? ⟨g, o, none⟩ = some (.int .u8 p.1.kind)
  c1 : w.cell? ⟨g, o + 1, none⟩ = some (.string (str p.1.name))
  c2 : w.cell? ⟨g, o + 2, none⟩ = some (.string (str p.1.tag))
  c3 : w.cell? ⟨g, o + 3, none⟩ = some p.2
  c4 : w.cell? ⟨g, o + 4, none⟩ = some (.string (str p.1.frm.name))
  c5 : w.cell? ⟨g, o + 5, none⟩ = some (.int .i64 p.1.frm.port)
  c6 : w.cell? ⟨g, o + 6, none⟩ = some (.int .i64 p.1.frm.place)
  c7 : w.cell? ⟨g, o + 7, none⟩ = some (.string (str p.1.tgt.name))
  c8 : w.cell? ⟨g, o + 8, none⟩ = some (.int .i64 p.1.tgt.port)
  c9 : w.cell? ⟨g, o + 9, none⟩ = some (.int .i64 p.1.tgt.place)
  c10 : w.cell? ⟨g, o + 10, none⟩ = some (.int .i64 p.1.place)
/-- Numbers lie where a slice says. -/
def IntsAt (w : World) (r : Value) (ns : List Int) : Prop :=
  ∃ a c, r = .slice a ns.length c ∧ (ns = [] ∨ ∃ g off, a = some ⟨g, off, none⟩ ∧ ∀ k, k < ns.length → w.cell? ⟨g, off + k, none⟩ = some (.int .i64 (ns.getD k 0)))
/-- Items lie where a slice says, and so do their numbers. -/
structure ItR (w : World) (a : Option Addr) (L : List (Itm × Value)) : Prop where
  lie : L = [] ∨ ∃ g off, a = some ⟨g, off, none⟩ ∧ ∀ k, k < L.length → Cell11 w g (off + k * 11) (nthI L k)
  nums : ∀ p ∈ L, IntsAt w p.2 p.1.nums
theorem cell_keep {w w' : World} (hb : Below w.heap.size w w') {p : Addr} {x : Value} (h : w.cell? p = some x) : w'.cell? p = some x := (hb.cell (block_lt_of_cell h)).trans h
theorem Cell11.below {w w' g o p} (h : Cell11 w g o p) (hb : Below w.heap.size w w') : Cell11 w' g o p :=
  ⟨cell_keep hb h.c0, cell_keep hb h.c1, cell_keep hb h.c2, cell_keep hb h.c3, cell_keep hb h.c4, cell_keep hb h.c5, cell_keep hb h.c6, cell_keep hb h.c7, cell_keep hb h.c8, cell_keep hb h.c9, cell_keep hb h.c10⟩
theorem IntsAt.below {w w' r ns} (h : IntsAt w r ns) (hb : Below w.heap.size w w') : IntsAt w' r ns := by
  obtain ⟨a, c, rfl, h⟩ := h
  refine ⟨a, c, rfl, ?_⟩
  rcases h with h | ⟨g, off, e, hc⟩
  · exact Or.inl h
  · exact Or.inr ⟨g, off, e, fun k hk => cell_keep hb (hc k hk)⟩
theorem ItR.below {w w' a L} (h : ItR w a L) (hb : Below w.heap.size w w') : ItR w' a L := by
  refine ⟨?_, fun p hp => (h.nums p hp).below hb⟩
  rcases h.lie with h | ⟨g, off, e, hc⟩
  · exact Or.inl h
  · exact Or.inr ⟨g, off, e, fun k hk => (hc k hk).below hb⟩
theorem add_zero5 (g m : Nat) : (⟨g, 0, none⟩ : Addr).add m = ⟨g, m, none⟩ := by
  unfold Addr.add
  by_cases h0 : m = 0
  · subst h0; rfl
  · simp [h0]
/-- What a walk is told of a sketch's items that came in. -/
structure ArgS (w : World) (a : Option Addr) (n : Nat) (L : List (Itm × Value)) : Prop where
  size : L.length = n
  lies : ItR w a L
  reach : n ≤ 140737488351232
  nums : ∀ p ∈ L, p.1.nums.length ≤ 140737488351232
  shp : ∀ p ∈ L, ∃ b d, p.2 = .slice b p.1.nums.length d ∧ (b = none → p.1.nums.length = 0 ∧ d = 0) ∧ p.1.nums.length ≤ d
  fits : ∀ p ∈ L, (-9223372036854775808 ≤ p.1.frm.port ∧ p.1.frm.port ≤ 9223372036854775807) ∧ (-9223372036854775808 ≤ p.1.tgt.port ∧ p.1.tgt.port ≤ 9223372036854775807) ∧ ∀ x ∈ p.1.nums, -9223372036854775808 ≤ x ∧ x ≤ 9223372036854775807
theorem ArgS.below {w w' a n L} (h : ArgS w a n L) (hb : Below w.heap.size w w') : ArgS w' a n L := ⟨h.size, h.lies.below hb, h.reach, h.nums, h.shp, h.fits⟩
theorem ItR.pre {w a L M} (h : ItR w a (L ++ M)) : ItR w a L := by
  refine ⟨?_, fun p hp => h.nums p (List.mem_append_left _ hp)⟩
  rcases h.lie with h0 | ⟨g, off, e, hc⟩
  · exact .inl (List.append_eq_nil_iff.1 h0).1
  · refine .inr ⟨g, off, e, fun k hk => ?_⟩
    have := hc k (by rw [List.length_append]; omega)
    unfold nthI at this ⊢
    rw [List.getD_eq_getElem?_getD, List.getElem?_append_left hk] at this
    rw [List.getD_eq_getElem?_getD]
    exact this
/-- Actors lie there, and their parameters. -/
def GrA (w : World) (a : Option Addr) (As : List GA) : Prop := As = [] ∨ ∃ b off, a = some ⟨b, off, none⟩ ∧ ∀ k, k < As.length → w.cell? ⟨b, off + k * 3, none⟩ = some (.string (str (nthA As k).name)) ∧ w.cell? ⟨b, off + k * 3 + 1, none⟩ = some (.int .u8 ((nthA As k).tag : Int)) ∧ (nthA As k).tag ≤ 255 ∧ ∃ x c, w.cell? ⟨b, off + k * 3 + 2, none⟩ = some (.slice x (nthA As k).params.length c) ∧ Arg w x (nthA As k).params.length c (nthA As k).params
def GrE (w : World) (a : Option Addr) (Es : List GE) : Prop := Es = [] ∨ ∃ b off, a = some ⟨b, off, none⟩ ∧ ∀ k, k < Es.length → w.cell? ⟨b, off + k * 5, none⟩ = some (.int .i64 (nthE Es k).f) ∧ w.cell? ⟨b, off + k * 5 + 1, none⟩ = some (.int .i64 (nthE Es k).fp) ∧ w.cell? ⟨b, off + k * 5 + 2, none⟩ = some (.int .i64 (nthE Es k).t) ∧ w.cell? ⟨b, off + k * 5 + 3, none⟩ = some (.int .i64 (nthE Es k).tp) ∧ ∃ x c, w.cell? ⟨b, off + k * 5 + 4, none⟩ = some (.slice x (nthE Es k).start.length c) ∧ Arg w x (nthE Es k).start.length c (nthE Es k).start
theorem GrA.at {w : World} {a : Option Addr} {As : List GA} (h : GrA w a As) : AtA w a As := by
  rcases h with h | ⟨b, off, e, hc⟩
  · exact .inl h
  · exact .inr ⟨b, off, e, fun k hk => by
      obtain ⟨h1, h2, h3, x, c, h4, h5⟩ := hc k hk
      exact ⟨h1, h2, h3, x, c, h4, h5.lies⟩⟩
theorem GrE.at {w : World} {a : Option Addr} {As : List GE} (h : GrE w a As) : AtE w a As := by
  rcases h with h | ⟨b, off, e, hc⟩
  · exact .inl h
  · exact .inr ⟨b, off, e, fun k hk => by
      obtain ⟨h1, h2, h3, h4, x, c, h5, h6⟩ := hc k hk
      exact ⟨h1, h2, h3, h4, x, c, h5, h6.lies⟩⟩
theorem GrA.below {w w' : World} {a : Option Addr} {As : List GA} (h : GrA w a As) (hb : Below w.heap.size w w') : GrA w' a As := by
  rcases h with h | ⟨b, off, e, hc⟩
  · exact .inl h
  · exact .inr ⟨b, off, e, fun k hk => by
      obtain ⟨h1, h2, h3, x, c, h4, h5⟩ := hc k hk
      exact ⟨cellG hb h1, cellG hb h2, h3, x, c, cellG hb h4, h5.below hb⟩⟩
theorem GrE.below {w w' : World} {a : Option Addr} {As : List GE} (h : GrE w a As) (hb : Below w.heap.size w w') : GrE w' a As := by
  rcases h with h | ⟨b, off, e, hc⟩
  · exact .inl h
  · exact .inr ⟨b, off, e, fun k hk => by
      obtain ⟨h1, h2, h3, h4, x, c, h5, h6⟩ := hc k hk
      exact ⟨cellG hb h1, cellG hb h2, cellG hb h3, cellG hb h4, x, c, cellG hb h5, h6.below hb⟩⟩
/-- A graph lies in memory, its lists where these addresses say. -/
structure GrG (w : World) (a1 a2 a3 a4 : Option Addr) (g : GG) : Prop where
  A : GrA w a1 g.actors
  E : GrE w a2 g.edges
  I : AtPt w a3 g.ins
  O : AtPt w a4 g.outs
  l1 : g.actors.length ≤ 1000000000000000
  l2 : g.edges.length ≤ 1000000000000000
  l3 : g.ins.length ≤ 1000000000000000
  l4 : g.outs.length ≤ 1000000000000000
theorem GrG.below {w w' : World} {a1 a2 a3 a4 : Option Addr} {g : GG} (h : GrG w a1 a2 a3 a4 g) (hb : Below w.heap.size w w') : GrG w' a1 a2 a3 a4 g :=
  ⟨h.A.below hb, h.E.below hb, h.I.below hb, h.O.below hb, h.l1, h.l2, h.l3, h.l4⟩
theorem flaw_f0 (a b c d : Value) (w : World) : (Instr.field 104 (.agg #[a, b, c, d]) 0).run Tryz.prog w = .ok a w := by kernel_rfl
set_option maxRecDepth 100000 in
set_option maxHeartbeats 1000000 in
theorem check_any (g : GG) (a1 a2 a3 a4 : Option Addr) (c1 c2 c3 c4 : Nat) (w : World) (h : GrG w a1 a2 a3 a4 g) :
    Calls Tryz.prog 16 #[.agg #[.string (str g.name), .slice a1 g.actors.length c1, .slice a2 g.edges.length c2, .slice a3 g.ins.length c3, .slice a4 g.outs.length c4]] w fun e w' => e = .returned (.int .i64 (firstF g).code) ∧ Below w.heap.size w w' := by
  have ba := (Below.refl w.heap.size w).alloc (Nat.le_refl _) (.cells #[.string (str g.name), .slice a1 g.actors.length c1, .slice a2 g.edges.length c2, .slice a3 g.ins.length c3, .slice a4 g.outs.length c4] 26)
  have h2 := h.below ba
  have HF := hiddenG (firstFlaw_any g a1 a2 a3 a4 c1 c2 c3 c4 _ h2.A.at h2.E.at h2.I h2.O h.l1 h.l2 h.l3 h.l4)
  obtain ⟨⟨q, k, n, e⟩, hf⟩ : ∃ f, firstF g = f := ⟨_, rfl⟩
  rw [hf] at HF
  rw [hf]
  unfold flV at HF
  have BA := hiddenG ba
  have gg := blkA_new 26 w #[.string (str g.name), .slice a1 g.actors.length c1, .slice a2 g.edges.length c2, .slice a3 g.ins.length c3, .slice a4 g.outs.length c4]
  have x0 := gg.cell (k := 0) rfl
  have x1 := gg.cell (k := 1) rfl
  have x2 := gg.cell (k := 2) rfl
  have x3 := gg.cell (k := 3) rfl
  have x4 := gg.cell (k := 4) rfl
  have f0 := flaw_f0 (.int .i64 q) (.int .u8 (k : Int)) (.int .i64 (n : Int)) (.int .u8 (e : Int))
  clear ba h2 h gg hf
  go_enter Tryz.func16, Tryz.ntmps16
  go_upto_region 1 with fail
  generalize w.alloc (.cells #[.string (str g.name), .slice a1 g.actors.length c1, .slice a2 g.edges.length c2, .slice a3 g.ins.length c3, .slice a4 g.outs.length c4] 26) = W0 at *
  go_wp2_with (go_at_call 37; (with_reducible refine HF.out.mono ?_); rintro e w1 ⟨rfl, b1⟩; have B1 := hiddenG b1; clear b1)
  go_ret
  exact ⟨rfl, BA.out.trans (B1.out.mono BA.out.size)⟩
/-! ### An element put behind a row that a struct's field holds -/
/-- An element's value, and what is known of it. -/
def ElV (E : World → List Value → Prop) (u : World) (z : Value) : Prop := ∃ es, z = .agg es.toArray ∧ E u es
/-- It lies in a new block. -/
def ElC (E : World → List Value → Prop) (V u : World) (z : Value) : Prop := ∃ h es, z = .slice (some ⟨h, 0, none⟩) 1 1 ∧ V.heap.size ≤ h ∧ h < u.heap.size ∧ (∀ k y, es[k]? = some y → u.cell? ⟨h, k, none⟩ = some y) ∧ E u es
theorem ElV.later {E : World → List Value → Prop} (hE : ∀ u u' es, E u es → Below u.heap.size u u' → E u' es) {u u' : World} {z : Value} (h : ElV E u z) (hb : Below u.heap.size u u') : ElV E u' z := by
  obtain ⟨es, h1, h2⟩ := h
  exact ⟨es, h1, hE _ _ _ h2 hb⟩
theorem ElC.later {E : World → List Value → Prop} {V : World} (hE : ∀ u u' es, E u es → Below u.heap.size u u' → E u' es) {u u' : World} {z : Value} (h : ElC E V u z) (hb : Below u.heap.size u u') : ElC E V u' z := by
  obtain ⟨g, es, h1, h2, h3, h4, h5⟩ := h
  exact ⟨g, es, h1, h2, Nat.lt_of_lt_of_le h3 hb.size, fun k y hy => cell_keep hb (h4 k y hy), hE _ _ _ h5 hb⟩
theorem elC_new {E : World → List Value → Prop} {V u : World} (hE : ∀ u u' es, E u es → Below u.heap.size u u' → E u' es) (T : TypeId) {es : List Value} (h : E u es) (hV : V.heap.size ≤ u.heap.size) : ElC E V (u.alloc (.cells es.toArray T)) (.slice (some ⟨u.heap.size, 0, none⟩) 1 1) :=
  ⟨u.heap.size, es, rfl, hV, by rw [World.size_alloc]; omega, fun k y hy => (blkA_new T u es.toArray).cell (by rw [List.getElem?_toArray]; exact hy), hE _ _ _ h ((Below.refl _ _).alloc (Nat.le_refl _) _)⟩
/-- The row, grown by one, told ahead of the growing and behind it. -/
structure AppD (E : World → List Value → Prop) (V : World) (B : Nat) (T : TypeId) (c : Nat) (v : Value) (n : Nat) (xs : List Value) (w1 u1 : World) (es : List Value) (z : Value) : Prop where
  bel : Below V.heap.size V w1
  el : E w1 es
  own : u1.ownsRow B T c z (n + 1) (xs ++ es)
  told : (∃ g cap, v = .slice (some ⟨g, 0, none⟩) n cap ∧ z = .slice (some ⟨g, 0, none⟩) (n + 1) cap ∧ w1.grownBy u1 (some g)) ∨ (∃ cap, z = .slice (some ⟨w1.heap.size, 0, none⟩) (n + 1) cap ∧ w1.grownBy u1 none)
theorem AppD.shape {E V B T c v n xs w1 u1 es z} (h : AppD E V B T c v n xs w1 u1 es z) : ∃ g cap, z = .slice (some ⟨g, 0, none⟩) (n + 1) cap := by
  rcases h.told with ⟨g, cap, -, e, -⟩ | ⟨cap, e, -⟩ <;> exact ⟨_, _, e⟩
theorem AppD.chg {E V B T c v n xs w1 u1 es z} (h : AppD E V B T c v n xs w1 u1 es z) : Chg (fun k => v.ownBlock = some k) V u1 := by
  rcases h.told with ⟨g, cap, e, -, hg⟩ | ⟨cap, -, hg⟩
  · exact (Chg.of_below h.bel).trans' (Chg.grown hg fun k hk => by cases hk; rw [e]; rfl)
  · exact (Chg.of_below h.bel).trans' (Chg.grown hg fun k hk => by cases hk)
def ElA (E : World → List Value → Prop) (V : World) (B : Nat) (T : TypeId) (c : Nat) (v : Value) (n : Nat) (xs : List Value) (u : World) (z : Value) : Prop := ∃ es w1 u1, AppD E V B T c v n xs w1 u1 es z ∧ Below u1.heap.size u1 u
theorem ElA.later {E V B T c v n xs u u' z} (h : ElA E V B T c v n xs u z) (hb : Below u.heap.size u u') : ElA E V B T c v n xs u' z := by
  obtain ⟨es, w1, u1, h1, h2⟩ := h
  exact ⟨es, w1, u1, h1, h2.trans (hb.mono h2.size)⟩
theorem ElA.size {E V B T c v n xs u z} (h : ElA E V B T c v n xs u z) : V.heap.size ≤ u.heap.size := by
  obtain ⟨es, w1, u1, h1, h2⟩ := h
  exact Nat.le_trans h1.chg.size h2.size
theorem ElA.shape {E V B T c v n xs u z} (h : ElA E V B T c v n xs u z) : ∃ g cap, z = .slice (some ⟨g, 0, none⟩) (n + 1) cap := by
  obtain ⟨es, w1, u1, h1, h2⟩ := h
  exact h1.shape
theorem ElA.chg {E V B T c v n xs u z} (h : ElA E V B T c v n xs u z) : Chg (fun k => v.ownBlock = some k) V u := by
  obtain ⟨es, w1, u1, h1, h2⟩ := h
  exact h1.chg.trans' (Chg.of_below h2)
/-- What the region comes to: the row in the struct's field b, f is the grown one. -/
def AppE (E : World → List Value → Prop) (V : World) (B : Nat) (T : TypeId) (c : Nat) (v : Value) (n : Nat) (xs : List Value) (S : TypeId) (b f : Nat) (cs : Array Value) (u : World) : Prop :=
  ∃ es w1 u1 z, AppD E V B T c v n xs w1 u1 es z ∧ But b u1 u ∧ BlkA S b u (cs.setIfInBounds f z)
theorem AppE.later {E V B T c v n xs S b f cs u u'} (h : AppE E V B T c v n xs S b f cs u) (hb : Below u.heap.size u u') : AppE E V B T c v n xs S b f cs u' := by
  obtain ⟨es, w1, u1, z, h1, h2, h3⟩ := h
  exact ⟨es, w1, u1, z, h1, h2.trans (But.of_below hb), h3.below hb⟩
theorem appE_store {E V B T c v n xs S b f cs u z} (h : ElA E V B T c v n xs u z) (hb : BlkA S b V cs) (hv : v.ownBlock ≠ some b) : AppE E V B T c v n xs S b f cs (u.setCell ⟨b, f, none⟩ z) ∧ BlkA S b u cs := by
  have hk := hb.keep (h.chg.block b hb.lt hv)
  obtain ⟨es, w1, u1, h1, h2⟩ := h
  exact ⟨⟨es, w1, u1, z, h1, (But.of_below h2).trans (But.set u b f z), hk.set f z⟩, hk⟩
theorem mark_appE {E : World → List Value → Prop} {V w : World} {o : Oper} {ρ : Operand → Value} (s x : Operand) (t T : TypeId) (i : TypeInfo) (zz : Value) (c bytes : Nat) (ho : o.op = .call { callee := .builtin .append, args := #[s, x], argTypes := #[t, t] }) (ht : Tryz.prog.underlying t = some (.slice T)) (hi : Tryz.prog.info? T = some i) (hz : i.zero = some zz) (hsize : i.size = c) (hby : i.bytes = bytes) (hzs : zz.cells.size = c) (hsz : 0 < c)
    {v z : Value} {B n : Nat} {xs : List Value} (hs : ρ s = v) (hx : ρ x = z) (hown : V.ownsRow B T c v n xs) (hb : Below V.heap.size V w) (hE1 : ∀ u es, E u es → es.length = c ∧ ∀ y ∈ es, y.oneCell' = true) (hc : ElC E V w z) (hB : B ≤ V.heap.size) (hn : (n + 1) * bytes ≤ 140737488355328) (hn2 : n + 1 ≤ 4611686018427387904)
    {Q : World → Value → Prop} (h : ∀ w' v', ElA E V B T c v n xs w' v' → Q w' v') : markUpon Tryz.prog w Q ((execOp ρ o).run Tryz.prog w) := by
  obtain ⟨g, es, rfl, h1, h2, h3, h4⟩ := hc
  obtain ⟨v', w', hr, q2, q3⟩ := run_append_told (P := Tryz.prog) w B t o.type T i zz c bytes ht hi hz hsize hby hzs hsz v n xs (owns_below hown hb) ⟨g, 0, none⟩ 1 1 (by decide) es (by rw [(hE1 _ _ h4).1, Nat.one_mul]) (fun j u hu => by rw [add_zero5]; exact h3 j u hu) (hE1 _ _ h4).2 (by unfold maxLen; omega) hn (Nat.le_trans hB hb.size)
  unfold execOp
  simp only [ho, resolve, invoke, builtin, Sem.run_bind, Sem.run_pure, Result.andThen_ok, List.map_toArray, List.map_cons, List.map_nil, hs, hx, hr]
  exact h w' v' ⟨es, w, w', ⟨hb, h4, q2, q3⟩, Below.refl _ _⟩
end Go.Proofs.YtmnbapcbailcbaaGreat
