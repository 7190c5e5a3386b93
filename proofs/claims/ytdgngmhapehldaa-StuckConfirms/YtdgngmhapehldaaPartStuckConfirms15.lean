/- Texts of one chain, laid one behind the other. -/
import Derived.Test.YtdgngmhapehldaaPartStuckConfirms10
import Derived.Test.YtdgngmhapehldaaPartStuckConfirms14
namespace Go.Proofs.Ytdgngmhapehldaa
open Go.ChangeShapes Go.WideShapes Go.ChangeAt Go.RowKit
/-- What is made while the wiring is laid out: the copy of the arcs, three blocks. -/
structure GhW where
  a : Option Addr
  c : Nat
  F : Nat → Nat
def is3 (j : Nat) : Prop := j = 5 ∨ j = 8 ∨ j = 10
structure CW (V : World) (L : List NA) (N : Nat) (y : GhW) (d : Nat → Bool) (u : World) : Prop where
  bel : Below V.heap.size V u
  arcs : d 2 = true → AtN u y.a L ∧ ∀ x, y.a = some x → V.heap.size ≤ x.block ∧ x.block < u.heap.size ∧ ∀ j, d j = true → is3 j → x.block ≠ y.F j
  rng : ∀ j, d j = true → is3 j → V.heap.size ≤ y.F j ∧ y.F j < u.heap.size
  dis : ∀ i j, d i = true → d j = true → is3 i → is3 j → i ≠ j → y.F i ≠ y.F j
  t5 : d 5 = true → u.rowIs (y.F 5) 35 N (fun _ => .slice none 0 0)
  t8 : d 8 = true → u.rowIs (y.F 8) 35 N (fun _ => .slice none 0 0)
  t10 : d 10 = true → BlkA 56 (y.F 10) u (if d 11 = true then #[.slice y.a L.length y.c, .slice (some ⟨y.F 5, 0, none⟩) N N, .slice (some ⟨y.F 8, 0, none⟩) N N] else #[.slice none 0 0, .slice none 0 0, .slice none 0 0])
theorem CW.later {V u u' : World} {L : List NA} {N : Nat} {y : GhW} {d : Nat → Bool} (h : CW V L N y d u) (hb : Below u.heap.size u u') : CW V L N y d u' := by
  have hs := hb.size
  refine ⟨h.bel.trans (hb.mono h.bel.size), fun e => ?_, fun j e hj => ?_, h.dis, fun e => (h.t5 e).of_block (hb.block _ (h.t5 e).lt), fun e => (h.t8 e).of_block (hb.block _ (h.t8 e).lt), fun e => (h.t10 e).below hb⟩
  · obtain ⟨h1, h2⟩ := h.arcs e
    exact ⟨h1.below hb, fun x hx => ⟨(h2 x hx).1, Nat.lt_of_lt_of_le (h2 x hx).2.1 hs, (h2 x hx).2.2⟩⟩
  · have := h.rng j e hj
    exact ⟨this.1, by omega⟩
theorem doneAt_eq (d : Nat → Bool) (i : Nat) : doneAt d i i = true := by unfold doneAt; rw [if_pos rfl]
theorem doneAt_ne (d : Nat → Bool) {i j : Nat} (h : j ≠ i) : doneAt d i j = d j := by unfold doneAt; rw [if_neg h]
theorem CW.m2 {V u u' : World} {L : List NA} {N : Nat} {y : GhW} {d : Nat → Bool} {a : Option Addr} {c : Nat} (h : CW V L N y d u) (h11 : d 11 = false) (h1 : AtN u' a L) (h2 : ∀ x, a = some x → u.heap.size ≤ x.block ∧ x.block < u'.heap.size) (hb : Below u.heap.size u u') : CW V L N ⟨a, c, y.F⟩ (doneAt d 2) u' := by
  have g := h.later hb
  have hs := h.bel.size
  have d11 : doneAt d 2 11 = false := (doneAt_ne d (by decide)).trans h11
  have t10 := g.t10
  rw [h11] at t10
  have k3 : ∀ j, doneAt d 2 j = true → is3 j → d j = true := fun j hj h3 => by
    rw [doneAt_ne d (by rcases h3 with rfl | rfl | rfl <;> decide)] at hj; exact hj
  refine ⟨g.bel, fun _ => ⟨h1, fun x hx => ⟨by have := (h2 x hx).1; omega, (h2 x hx).2, fun j hj h3 => ?_⟩⟩, fun j hj h3 => g.rng j (k3 j hj h3) h3, fun i j hi hj i3 j3 => g.dis i j (k3 i hi i3) (k3 j hj j3) i3 j3, g.t5, g.t8, ?_⟩
  · have q1 := (h.rng j (k3 j hj h3) h3).2
    have q2 := (h2 x hx).1
    show x.block ≠ y.F j
    omega
  · rw [d11]; exact t10
theorem CW.made {V u : World} {L : List NA} {N : Nat} {y : GhW} {d : Nat → Bool} (i : Nat) (o : Obj) (hi : is3 i) (h : CW V L N y d u) (h0 : d i = false) (h11 : d 11 = false)
    (h5 : i = 5 → (u.alloc o).rowIs u.heap.size 35 N (fun _ => .slice none 0 0)) (h8 : i = 8 → (u.alloc o).rowIs u.heap.size 35 N (fun _ => .slice none 0 0)) (h10 : i = 10 → BlkA 56 u.heap.size (u.alloc o) #[.slice none 0 0, .slice none 0 0, .slice none 0 0]) : CW V L N ⟨y.a, y.c, upd y.F i u.heap.size⟩ (doneAt d i) (u.alloc o) := by
  have hb : Below u.heap.size u (u.alloc o) := (Below.refl _ _).alloc (Nat.le_refl _) o
  have g := h.later hb
  have hs := h.bel.size
  have hsz : (u.alloc o).heap.size = u.heap.size + 1 := World.size_alloc _ _
  have n2 : (2 : Nat) ≠ i := by rcases hi with rfl | rfl | rfl <;> decide
  have n11 : (11 : Nat) ≠ i := by rcases hi with rfl | rfl | rfl <;> decide
  have d11 : doneAt d i 11 = false := (doneAt_ne d n11).trans h11
  have t10 := g.t10
  rw [h11] at t10
  have old : ∀ j, doneAt d i j = true → j ≠ i → d j = true := fun j hj hne => by rw [doneAt_ne d hne] at hj; exact hj
  refine ⟨g.bel, fun h2 => ?_, fun j hj h3 => ?_, fun p q hp hq p3 q3 hne => ?_, fun h5' => ?_, fun h8' => ?_, fun h10' => ?_⟩
  · rw [doneAt_ne d n2] at h2
    obtain ⟨q1, q2⟩ := g.arcs h2
    refine ⟨q1, fun x hx => ⟨(q2 x hx).1, (q2 x hx).2.1, fun j hj h3 => ?_⟩⟩
    by_cases e : j = i
    · subst e
      show x.block ≠ upd y.F j u.heap.size j
      rw [upd_eq]
      have := ((h.arcs h2).2 x hx).2.1
      omega
    · show x.block ≠ upd y.F i u.heap.size j
      rw [upd_ne e]
      exact (q2 x hx).2.2 j (old j hj e) h3
  · by_cases e : j = i
    · subst e
      show V.heap.size ≤ upd y.F j u.heap.size j ∧ upd y.F j u.heap.size j < _
      rw [upd_eq, hsz]; omega
    · show V.heap.size ≤ upd y.F i u.heap.size j ∧ upd y.F i u.heap.size j < _
      rw [upd_ne e]; exact g.rng j (old j hj e) h3
  · show upd y.F i u.heap.size p ≠ upd y.F i u.heap.size q
    by_cases e : p = i
    · subst e
      rw [upd_eq, upd_ne (Ne.symm hne)]
      have := (h.rng q (old q hq (Ne.symm hne)) q3).2
      omega
    · rw [upd_ne e]
      by_cases e2 : q = i
      · subst e2
        rw [upd_eq]
        have := (h.rng p (old p hp e) p3).2
        omega
      · rw [upd_ne e2]
        exact g.dis p q (old p hp e) (old q hq e2) p3 q3 hne
  · by_cases e : (5 : Nat) = i
    · show (u.alloc o).rowIs (upd y.F i u.heap.size 5) 35 N _
      rw [← e, upd_eq]; exact h5 e.symm
    · show (u.alloc o).rowIs (upd y.F i u.heap.size 5) 35 N _
      rw [upd_ne e]; exact g.t5 (old 5 h5' e)
  · by_cases e : (8 : Nat) = i
    · show (u.alloc o).rowIs (upd y.F i u.heap.size 8) 35 N _
      rw [← e, upd_eq]; exact h8 e.symm
    · show (u.alloc o).rowIs (upd y.F i u.heap.size 8) 35 N _
      rw [upd_ne e]; exact g.t8 (old 8 h8' e)
  · rw [d11]
    by_cases e : (10 : Nat) = i
    · show BlkA 56 (upd y.F i u.heap.size 10) (u.alloc o) _
      rw [← e, upd_eq]; exact h10 e.symm
    · show BlkA 56 (upd y.F i u.heap.size 10) (u.alloc o) _
      rw [upd_ne e]; exact t10 (old 10 h10' e)
/-- A row that has grown by one number; what else has stayed. -/
structure GrwN (B : Nat) (V : World) (d0 : Option Addr) (L : List Int) (u : World) (d : Option Addr) (c : Nat) : Prop where
  own : CapR B u d c L
  keep : ∀ k, k < V.heap.size → (∀ y, d0 = some y → y.block ≠ k) → u.heap[k]? = V.heap[k]?
  new : ∀ z, d = some z → d0 = some z ∨ V.heap.size ≤ z.block
  size : V.heap.size ≤ u.heap.size
  os : u.os = V.os
  tape : u.tape = V.tape
  output : u.output = V.output
theorem GrwN.later {B : Nat} {V u u' : World} {d0 : Option Addr} {L : List Int} {d : Option Addr} {c : Nat} (h : GrwN B V d0 L u d c) (hb : Below u.heap.size u u') : GrwN B V d0 L u' d c :=
  ⟨h.own.later hb, fun k hk hn => (hb.block k (Nat.lt_of_lt_of_le hk h.size)).trans (h.keep k hk hn), h.new, Nat.le_trans h.size hb.size, hb.os.trans h.os, hb.tape.trans h.tape, hb.output.trans h.output⟩
/-- How things lie while the tables are filled. -/
structure LW (B : Nat) (V0 wr : World) (L : List NA) (N : Nat) (P H1 H2 cA : Nat) (aA : Option Addr) (D1 D2 : Nat → Option Addr) (E1 E2 : Nat → Nat) (Y1 Y2 : Nat → List Int) : Prop where
  t1 : TabN B wr H1 N D1 E1 Y1
  t2 : TabN B wr H2 N D2 E2 Y2
  sep : ∀ k, ofT N H1 D1 k → ¬ ofT N H2 D2 k
  p1 : ∀ k, ofT N H1 D1 k → k ≠ P ∧ ∀ x, aA = some x → x.block ≠ k
  p2 : ∀ k, ofT N H2 D2 k → k ≠ P ∧ ∀ x, aA = some x → x.block ≠ k
  arcs : AtN wr aA L
  low : ∀ x, aA = some x → B ≤ x.block ∧ x.block < wr.heap.size
  blk : BlkA 56 P wr #[.slice aA L.length cA, .slice (some ⟨H1, 0, none⟩) N N, .slice (some ⟨H2, 0, none⟩) N N]
  bel : Below B V0 wr
theorem LW.later {B : Nat} {V0 wr w' : World} {L : List NA} {N : Nat} {P H1 H2 cA : Nat} {aA : Option Addr} {D1 D2 : Nat → Option Addr} {E1 E2 : Nat → Nat} {Y1 Y2 : Nat → List Int} (h : LW B V0 wr L N P H1 H2 cA aA D1 D2 E1 E2 Y1 Y2) (hb : Below wr.heap.size wr w') (hB : B ≤ wr.heap.size) : LW B V0 w' L N P H1 H2 cA aA D1 D2 E1 E2 Y1 Y2 :=
  ⟨h.t1.below hb, h.t2.below hb, h.sep, h.p1, h.p2, h.arcs.below hb, fun x hx => ⟨(h.low x hx).1, Nat.lt_of_lt_of_le (h.low x hx).2 hb.size⟩, h.blk.below hb, h.bel.trans (hb.mono hB)⟩
/-- One row of a table has grown, the table's cell is set: what has become of the world. -/
structure FinN (B : Nat) (V : World) (H N tv : Nat) (D : Nat → Option Addr) (E : Nat → Nat) (Y : Nat → List Int) (R : List Int) (u : World) (d : Option Addr) (c : Nat) : Prop where
  tab : TabN B u H N (upd D tv d) (upd E tv c) (upd Y tv R)
  keep : ∀ k, k < V.heap.size → ¬ ofT N H D k → u.heap[k]? = V.heap[k]?
  new : ∀ z, d = some z → D tv = some z ∨ V.heap.size ≤ z.block
  size : V.heap.size ≤ u.heap.size
  os : u.os = V.os
  tape : u.tape = V.tape
  output : u.output = V.output
theorem FinN.later {B : Nat} {V u u' : World} {H N tv c : Nat} {D : Nat → Option Addr} {E : Nat → Nat} {Y : Nat → List Int} {R : List Int} {d : Option Addr} (h : FinN B V H N tv D E Y R u d c) (hb : Below u.heap.size u u') : FinN B V H N tv D E Y R u' d c :=
  ⟨h.tab.below hb, fun k hk hn => (hb.block k (Nat.lt_of_lt_of_le hk h.size)).trans (h.keep k hk hn), h.new, Nat.le_trans h.size hb.size, hb.os.trans h.os, hb.tape.trans h.tape, hb.output.trans h.output⟩
theorem TabN.mono {B B' : Nat} {w : World} {H N : Nat} {D : Nat → Option Addr} {E : Nat → Nat} {Y : Nat → List Int} (h : TabN B w H N D E Y) (hB : B' ≤ B) : TabN B' w H N D E Y := ⟨fun j hj => (h.own j hj).mono hB, h.long, h.dd, h.dt, Nat.le_trans hB h.low⟩
/-- The wiring's blocks. -/
def WbN (N : Nat) (aA : Option Addr) (H1 H2 : Nat) (D1 D2 : Nat → Option Addr) (k : Nat) : Prop := (∃ x, aA = some x ∧ x.block = k) ∨ ofT N H1 D1 k ∨ ofT N H2 D2 k
/-- A wiring, as it lies. -/
structure WrN (B : Nat) (w : World) (L : List NA) (N : Nat) (aA : Option Addr) (H1 H2 : Nat) (D1 D2 : Nat → Option Addr) (E1 E2 : Nat → Nat) : Prop where
  arcs : AtN w aA L
  sA : ∀ x, aA = some x → B ≤ x.block ∧ x.block < w.heap.size
  t1 : TabN B w H1 N D1 E1 (fun v => posU (toB (v : Int)) L L.length)
  t2 : TabN B w H2 N D2 E2 (fun v => posU (fromB (v : Int)) L L.length)
theorem WrN.lt {B : Nat} {w : World} {L : List NA} {N : Nat} {aA : Option Addr} {H1 H2 : Nat} {D1 D2 : Nat → Option Addr} {E1 E2 : Nat → Nat} (h : WrN B w L N aA H1 H2 D1 D2 E1 E2) {k : Nat} (hk : WbN N aA H1 H2 D1 D2 k) : B ≤ k ∧ k < w.heap.size := by
  rcases hk with ⟨x, hx, rfl⟩ | h1 | h1
  · exact h.sA x hx
  · exact h.t1.lt h1
  · exact h.t2.lt h1
theorem WrN.keep {B : Nat} {w w' : World} {L : List NA} {N : Nat} {aA : Option Addr} {H1 H2 : Nat} {D1 D2 : Nat → Option Addr} {E1 E2 : Nat → Nat} (h : WrN B w L N aA H1 H2 D1 D2 E1 E2) (hk : ∀ k, WbN N aA H1 H2 D1 D2 k → w'.heap[k]? = w.heap[k]?) (hs : w.heap.size ≤ w'.heap.size) : WrN B w' L N aA H1 H2 D1 D2 E1 E2 :=
  ⟨h.arcs.keep (fun x hx => hk _ (.inl ⟨x, hx, rfl⟩)), fun x hx => ⟨(h.sA x hx).1, Nat.lt_of_lt_of_le (h.sA x hx).2 hs⟩, h.t1.keep (fun _ hk' => hk _ (.inr (.inl hk'))), h.t2.keep (fun _ hk' => hk _ (.inr (.inr hk')))⟩
theorem WrN.below {B : Nat} {w w' : World} {L : List NA} {N : Nat} {aA : Option Addr} {H1 H2 : Nat} {D1 D2 : Nat → Option Addr} {E1 E2 : Nat → Nat} (h : WrN B w L N aA H1 H2 D1 D2 E1 E2) (hb : Below w.heap.size w w') : WrN B w' L N aA H1 H2 D1 D2 E1 E2 := h.keep (fun k hk => hb.block k (h.lt hk).2) hb.size
theorem WrN.mono {B B' : Nat} {w : World} {L : List NA} {N : Nat} {aA : Option Addr} {H1 H2 : Nat} {D1 D2 : Nat → Option Addr} {E1 E2 : Nat → Nat} (h : WrN B w L N aA H1 H2 D1 D2 E1 E2) (hB : B' ≤ B) : WrN B' w L N aA H1 H2 D1 D2 E1 E2 := ⟨h.arcs, fun x hx => ⟨Nat.le_trans hB (h.sA x hx).1, (h.sA x hx).2⟩, h.t1.mono hB, h.t2.mono hB⟩
structure GhN where
  aA : Option Addr
  cA : Nat
  H1 : Nat
  H2 : Nat
  D1 : Nat → Option Addr
  D2 : Nat → Option Addr
  E1 : Nat → Nat
  E2 : Nat → Nat
  gF : Nat
structure CN (V : World) (L : List NA) (N : Nat) (y : GhN) (d : Nat → Bool) (u : World) : Prop where
  bel : Below V.heap.size V u
  wr : d 1 = true → WrN V.heap.size u L N y.aA y.H1 y.H2 y.D1 y.D2 y.E1 y.E2
  fi : d 4 = true → CapR V.heap.size u (some ⟨y.gF, 0, none⟩) N (List.replicate N 0)
  dis : d 1 = true → d 4 = true → ∀ k, WbN N y.aA y.H1 y.H2 y.D1 y.D2 k → k ≠ y.gF
theorem CN.later {V u u' : World} {L : List NA} {N : Nat} {y : GhN} {d : Nat → Bool} (h : CN V L N y d u) (hb : Below u.heap.size u u') : CN V L N y d u' :=
  ⟨h.bel.trans (hb.mono h.bel.size), fun e => (h.wr e).below hb, fun e => (h.fi e).later hb, h.dis⟩
theorem CN.m1 {V u u' : World} {L : List NA} {N : Nat} {y : GhN} {d : Nat → Bool} {aA : Option Addr} {cA H1 H2 : Nat} {D1 D2 : Nat → Option Addr} {E1 E2 : Nat → Nat} (h : CN V L N y d u) (hw : WrN u.heap.size u' L N aA H1 H2 D1 D2 E1 E2) (hb : Below u.heap.size u u') : CN V L N ⟨aA, cA, H1, H2, D1, D2, E1, E2, y.gF⟩ (doneAt d 1) u' := by
  have g := h.later hb
  have e4 : doneAt d 1 4 = d 4 := doneAt_ne d (by decide)
  refine ⟨g.bel, fun _ => hw.mono h.bel.size, fun e => g.fi (by rw [← e4]; exact e), fun _ e k hk => ?_⟩
  rw [e4] at e
  have h1 := (hw.lt hk).1
  have h2 := ((h.fi e).lt _ rfl).2
  intro hh
  simp only at h2 hh
  omega
/-- A state while its tokens are laid. -/
structure LN (B : Nat) (w0 wr : World) (L : List NA) (N K : Nat) (T : List Int) (aA : Option Addr) (cA H1 H2 : Nat) (D1 D2 : Nat → Option Addr) (E1 E2 : Nat → Nat) (aT : Option Addr) (cT gF : Nat) : Prop where
  blk : BlkA 59 K wr #[.slice aA L.length cA, .slice (some ⟨H1, 0, none⟩) N N, .slice (some ⟨H2, 0, none⟩) N N, .slice aT T.length cT, .slice (some ⟨gF, 0, none⟩) N N]
  w : WrN B wr L N aA H1 H2 D1 D2 E1 E2
  fi : CapR B wr (some ⟨gF, 0, none⟩) N (List.replicate N 0)
  tok : CapR B wr aT cT T
  lK : B ≤ K
  wb : ∀ k, WbN N aA H1 H2 D1 D2 k → k ≠ K ∧ k ≠ gF
  kf : K ≠ gF
  tk : ∀ y, aT = some y → y.block ≠ K ∧ y.block ≠ gF ∧ ¬ WbN N aA H1 H2 D1 D2 y.block
  bel : Below B w0 wr
theorem LN.later {B : Nat} {w0 wr w' : World} {L : List NA} {N K : Nat} {T : List Int} {aA : Option Addr} {cA H1 H2 : Nat} {D1 D2 : Nat → Option Addr} {E1 E2 : Nat → Nat} {aT : Option Addr} {cT gF : Nat} (h : LN B w0 wr L N K T aA cA H1 H2 D1 D2 E1 E2 aT cT gF) (hb : Below wr.heap.size wr w') (hB : B ≤ wr.heap.size) : LN B w0 w' L N K T aA cA H1 H2 D1 D2 E1 E2 aT cT gF :=
  ⟨h.blk.below hb, h.w.below hb, h.fi.later hb, h.tok.later hb, h.lK, h.wb, h.kf, h.tk, h.bel.trans (hb.mono hB)⟩
/-- The tokens' row has grown, the state's field is set. -/
structure FinT (B : Nat) (V : World) (K : Nat) (cs : Array Value) (aT : Option Addr) (R : List Int) (u : World) (d : Option Addr) (c : Nat) : Prop where
  own : CapR B u d c R
  blk : BlkA 59 K u (cs.setIfInBounds 3 (.slice d R.length c))
  keep : ∀ k, k < V.heap.size → k ≠ K → (∀ y, aT = some y → y.block ≠ k) → u.heap[k]? = V.heap[k]?
  new : ∀ z, d = some z → aT = some z ∨ V.heap.size ≤ z.block
  size : V.heap.size ≤ u.heap.size
  os : u.os = V.os
  tape : u.tape = V.tape
  output : u.output = V.output
theorem FinT.later {B : Nat} {V u u' : World} {K c : Nat} {cs : Array Value} {aT d : Option Addr} {R : List Int} (h : FinT B V K cs aT R u d c) (hb : Below u.heap.size u u') : FinT B V K cs aT R u' d c :=
  ⟨h.own.later hb, h.blk.below hb, fun k hk h1 h2 => (hb.block k (Nat.lt_of_lt_of_le hk h.size)).trans (h.keep k hk h1 h2), h.new, Nat.le_trans h.size hb.size, hb.os.trans h.os, hb.tape.trans h.tape, hb.output.trans h.output⟩
theorem drewB {B : Nat} {a w : World} (h : Below B a w) (n : Nat) : Below B a (w.drewN n) := h.trans ⟨rfl, rfl, rfl, Nat.le_refl _, fun _ _ => rfl⟩
end Go.Proofs.Ytdgngmhapehldaa
