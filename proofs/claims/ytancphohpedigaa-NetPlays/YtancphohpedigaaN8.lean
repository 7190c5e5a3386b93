/- net.New. (Written by tmpl/mkN8.py.) -/
import Derived.Test.YtancphohpedigaaN7
namespace Go.Proofs.Ytancphohpedigaa
open Go.ChangeShapes Go.WideShapes Go.ChangeAt Go.RowKit

/-- The wiring's blocks. -/
def WbN (N : Nat) (aA : Option Addr) (H1 H2 : Nat) (D1 D2 : Nat → Option Addr) (k : Nat) : Prop := (∃ x, aA = some x ∧ x.block = k) ∨ ofT N H1 D1 k ∨ ofT N H2 D2 k
/-- A wiring, as it lies. -/
structure WrN (B : Nat) (w : World) (L : List NA) (N : Nat) (aA : Option Addr) (H1 H2 : Nat) (D1 D2 : Nat → Option Addr) (E1 E2 : Nat → Nat) : Prop where
  arcs : AtN w aA L
  sA : ∀ x, aA = some x → B ≤ x.block ∧ x.block < w.heap.size
  t1 : TabN B w H1 N D1 E1 (fun v => posU (toB (v : Int)) L L.length)
  t2 : TabN B w H2 N D2 E2 (fun v => posU (fromB (v : Int)) L L.length)
theorem WrN.lt {B : Nat} {w : World} {L : List NA} {N : Nat} {aA : Option Addr} {H1 H2 : Nat} {D1 D2 : Nat → Option Addr} {E1 E2 : Nat → Nat} (h : WrN B w L N aA H1 H2 D1 D2 E1 E2) {k : Nat} (hk : WbN N aA H1 H2 D1 D2 k) : B ≤ k ∧ k < w.heap.size := by
  rcases hk with ⟨x, hx, rfl⟩ | h1 | h1
  · exact h.sA x hx
  · exact h.t1.lt h1
  · exact h.t2.lt h1
theorem WrN.keep {B : Nat} {w w' : World} {L : List NA} {N : Nat} {aA : Option Addr} {H1 H2 : Nat} {D1 D2 : Nat → Option Addr} {E1 E2 : Nat → Nat} (h : WrN B w L N aA H1 H2 D1 D2 E1 E2) (hk : ∀ k, WbN N aA H1 H2 D1 D2 k → w'.heap[k]? = w.heap[k]?) (hs : w.heap.size ≤ w'.heap.size) : WrN B w' L N aA H1 H2 D1 D2 E1 E2 :=
  ⟨h.arcs.keep (fun x hx => hk _ (.inl ⟨x, hx, rfl⟩)), fun x hx => ⟨(h.sA x hx).1, Nat.lt_of_lt_of_le (h.sA x hx).2 hs⟩, h.t1.keep (fun _ hk' => hk _ (.inr (.inl hk'))), h.t2.keep (fun _ hk' => hk _ (.inr (.inr hk')))⟩
theorem WrN.below {B : Nat} {w w' : World} {L : List NA} {N : Nat} {aA : Option Addr} {H1 H2 : Nat} {D1 D2 : Nat → Option Addr} {E1 E2 : Nat → Nat} (h : WrN B w L N aA H1 H2 D1 D2 E1 E2) (hb : Below w.heap.size w w') : WrN B w' L N aA H1 H2 D1 D2 E1 E2 := h.keep (fun k hk => hb.block k (h.lt hk).2) hb.size
theorem WrN.mono {B B' : Nat} {w : World} {L : List NA} {N : Nat} {aA : Option Addr} {H1 H2 : Nat} {D1 D2 : Nat → Option Addr} {E1 E2 : Nat → Nat} (h : WrN B w L N aA H1 H2 D1 D2 E1 E2) (hB : B' ≤ B) : WrN B' w L N aA H1 H2 D1 D2 E1 E2 := ⟨h.arcs, fun x hx => ⟨Nat.le_trans hB (h.sA x hx).1, (h.sA x hx).2⟩, h.t1.mono hB, h.t2.mono hB⟩
structure GhN where
  aA : Option Addr
  cA : Nat
  H1 : Nat
  H2 : Nat
  D1 : Nat → Option Addr
  D2 : Nat → Option Addr
  E1 : Nat → Nat
  E2 : Nat → Nat
  gF : Nat
structure CN (V : World) (L : List NA) (N : Nat) (y : GhN) (d : Nat → Bool) (u : World) : Prop where
  bel : Below V.heap.size V u
  wr : d 1 = true → WrN V.heap.size u L N y.aA y.H1 y.H2 y.D1 y.D2 y.E1 y.E2
  fi : d 4 = true → CapR V.heap.size u (some ⟨y.gF, 0, none⟩) N (List.replicate N 0)
  dis : d 1 = true → d 4 = true → ∀ k, WbN N y.aA y.H1 y.H2 y.D1 y.D2 k → k ≠ y.gF
theorem CN.start (V : World) (L : List NA) (N : Nat) (y : GhN) : CN V L N y (fun _ => false) V := ⟨Below.refl _ _, (fun h => by cases h), (fun h => by cases h), (fun h => by cases h)⟩
theorem CN.later {V u u' : World} {L : List NA} {N : Nat} {y : GhN} {d : Nat → Bool} (h : CN V L N y d u) (hb : Below u.heap.size u u') : CN V L N y d u' :=
  ⟨h.bel.trans (hb.mono h.bel.size), fun e => (h.wr e).below hb, fun e => (h.fi e).later hb, h.dis⟩
theorem CN.m1 {V u u' : World} {L : List NA} {N : Nat} {y : GhN} {d : Nat → Bool} {aA : Option Addr} {cA H1 H2 : Nat} {D1 D2 : Nat → Option Addr} {E1 E2 : Nat → Nat} (h : CN V L N y d u) (hw : WrN u.heap.size u' L N aA H1 H2 D1 D2 E1 E2) (hb : Below u.heap.size u u') : CN V L N ⟨aA, cA, H1, H2, D1, D2, E1, E2, y.gF⟩ (doneAt d 1) u' := by
  have g := h.later hb
  have e4 : doneAt d 1 4 = d 4 := doneAt_ne d (by decide)
  refine ⟨g.bel, fun _ => hw.mono h.bel.size, fun e => g.fi (by rw [← e4]; exact e), fun _ e k hk => ?_⟩
  rw [e4] at e
  have h1 := (hw.lt hk).1
  have h2 := ((h.fi e).lt _ rfl).2
  intro hh
  simp only at h2 hh
  omega
theorem made_ownN (w : World) (N : Nat) (hN : N ≤ 1000) {B : Nat} (hB : B ≤ w.heap.size) : CapR B (w.alloc (.cells (madeCells #[.int .i64 0] N) 3)) (some ⟨w.heap.size, 0, none⟩) N (List.replicate N 0) := by
  have hm : (w.alloc (.cells (madeCells #[.int .i64 0] N) 3)).heap[w.heap.size]? = some (.cells (madeCells #[.int .i64 0] N) 3 (0, 0)) := by show (w.heap.push _)[w.heap.size]? = _; simp
  unfold CapR
  rw [List.length_replicate]
  refine ⟨by simp, .inr ⟨w.heap.size, N, _, rfl, hB, hm, Nat.le_refl _, by unfold maxLen; omega, by simp [madeCells], ?_⟩⟩
  apply List.ext_getElem?
  intro k
  rw [Nat.mul_one]
  by_cases hk : k < N <;> simp [madeCells, hk, Nat.mod_one]
theorem CN.m4 {V u : World} {L : List NA} {N : Nat} {y : GhN} {d : Nat → Bool} (h : CN V L N y d u) (hN : N ≤ 1000) : CN V L N ⟨y.aA, y.cA, y.H1, y.H2, y.D1, y.D2, y.E1, y.E2, u.heap.size⟩ (doneAt d 4) (u.alloc (.cells (madeCells #[.int .i64 0] N) 3)) := by
  have hb : Below u.heap.size u (u.alloc (.cells (madeCells #[.int .i64 0] N) 3)) := (Below.refl _ _).alloc (Nat.le_refl _) _
  have g := h.later hb
  have e1 : doneAt d 4 1 = d 1 := doneAt_ne d (by decide)
  refine ⟨g.bel, fun e => g.wr (by rw [← e1]; exact e), fun _ => made_ownN u N hN h.bel.size, fun e _ k hk => ?_⟩
  rw [e1] at e
  have h1 := ((h.wr e).lt hk).2
  show k ≠ u.heap.size
  omega
/-- A state while its tokens are laid. -/
structure LN (B : Nat) (w0 wr : World) (L : List NA) (N K : Nat) (T : List Int) (aA : Option Addr) (cA H1 H2 : Nat) (D1 D2 : Nat → Option Addr) (E1 E2 : Nat → Nat) (aT : Option Addr) (cT gF : Nat) : Prop where
  blk : BlkA 72 K wr #[.slice aA L.length cA, .slice (some ⟨H1, 0, none⟩) N N, .slice (some ⟨H2, 0, none⟩) N N, .slice aT T.length cT, .slice (some ⟨gF, 0, none⟩) N N]
  w : WrN B wr L N aA H1 H2 D1 D2 E1 E2
  fi : CapR B wr (some ⟨gF, 0, none⟩) N (List.replicate N 0)
  tok : CapR B wr aT cT T
  lK : B ≤ K
  wb : ∀ k, WbN N aA H1 H2 D1 D2 k → k ≠ K ∧ k ≠ gF
  kf : K ≠ gF
  tk : ∀ y, aT = some y → y.block ≠ K ∧ y.block ≠ gF ∧ ¬ WbN N aA H1 H2 D1 D2 y.block
  bel : Below B w0 wr
theorem LN.later {B : Nat} {w0 wr w' : World} {L : List NA} {N K : Nat} {T : List Int} {aA : Option Addr} {cA H1 H2 : Nat} {D1 D2 : Nat → Option Addr} {E1 E2 : Nat → Nat} {aT : Option Addr} {cT gF : Nat} (h : LN B w0 wr L N K T aA cA H1 H2 D1 D2 E1 E2 aT cT gF) (hb : Below wr.heap.size wr w') (hB : B ≤ wr.heap.size) : LN B w0 w' L N K T aA cA H1 H2 D1 D2 E1 E2 aT cT gF :=
  ⟨h.blk.below hb, h.w.below hb, h.fi.later hb, h.tok.later hb, h.lK, h.wb, h.kf, h.tk, h.bel.trans (hb.mono hB)⟩
/-- The tokens' row has grown, the state's field is set. -/
structure FinT (B : Nat) (V : World) (K : Nat) (cs : Array Value) (aT : Option Addr) (R : List Int) (u : World) (d : Option Addr) (c : Nat) : Prop where
  own : CapR B u d c R
  blk : BlkA 72 K u (cs.setIfInBounds 3 (.slice d R.length c))
  keep : ∀ k, k < V.heap.size → k ≠ K → (∀ y, aT = some y → y.block ≠ k) → u.heap[k]? = V.heap[k]?
  new : ∀ z, d = some z → aT = some z ∨ V.heap.size ≤ z.block
  size : V.heap.size ≤ u.heap.size
  os : u.os = V.os
  tape : u.tape = V.tape
  output : u.output = V.output
theorem FinT.later {B : Nat} {V u u' : World} {K c : Nat} {cs : Array Value} {aT d : Option Addr} {R : List Int} (h : FinT B V K cs aT R u d c) (hb : Below u.heap.size u u') : FinT B V K cs aT R u' d c :=
  ⟨h.own.later hb, h.blk.below hb, fun k hk h1 h2 => (hb.block k (Nat.lt_of_lt_of_le hk h.size)).trans (h.keep k hk h1 h2), h.new, Nat.le_trans h.size hb.size, hb.os.trans h.os, hb.tape.trans h.tape, hb.output.trans h.output⟩
theorem finT_of {B : Nat} {V u : World} {K c : Nat} {cs : Array Value} {aT d : Option Addr} {R : List Int} (hb : BlkA 72 K V cs) (hn : ∀ y, aT = some y → y.block ≠ K) (g : GrwN B V aT R u d c) : FinT B V K cs aT R (u.setCell ⟨K, 3, none⟩ (.slice d R.length c)) d c := by
  have hk := g.keep K hb.lt hn
  have dK : ∀ z, d = some z → z.block ≠ K := fun z hz => by
    rcases g.new z hz with h1 | h1
    · exact hn z h1
    · have := hb.lt; omega
  refine ⟨g.own.setOther (ad := ⟨K, 3, none⟩) dK _, (hb.keep hk).set 3 _, fun k h1 h2 h3 => ?_, g.new, by rw [World.size_setCell]; exact g.size, g.os, g.tape, g.output⟩
  rw [Below.heap_setCell u ⟨K, 3, none⟩ _ k h2]
  exact g.keep k h1 h3
theorem LN.step {B : Nat} {w0 V u : World} {L : List NA} {N K c : Nat} {T : List Int} {x : Int} {d : Option Addr} {aA : Option Addr} {cA H1 H2 : Nat} {D1 D2 : Nat → Option Addr} {E1 E2 : Nat → Nat} {aT : Option Addr} {cT gF : Nat} (h : LN B w0 V L N K T aA cA H1 H2 D1 D2 E1 E2 aT cT gF) (hB : B ≤ V.heap.size) (f : FinT B V K #[.slice aA L.length cA, .slice (some ⟨H1, 0, none⟩) N N, .slice (some ⟨H2, 0, none⟩) N N, .slice aT T.length cT, .slice (some ⟨gF, 0, none⟩) N N] aT (T ++ [x]) u d c) : LN B w0 u L N K (T ++ [x]) aA cA H1 H2 D1 D2 E1 E2 d c gF := by
  have kW : ∀ k, WbN N aA H1 H2 D1 D2 k → u.heap[k]? = V.heap[k]? := fun k hk => f.keep k (h.w.lt hk).2 (h.wb k hk).1 (fun y hy e => (h.tk y hy).2.2 (by rw [e]; exact hk))
  refine ⟨f.blk, h.w.keep kW f.size, h.fi.keep (fun x hx => by cases hx; exact f.keep _ (h.fi.lt _ rfl).2 (Ne.symm h.kf) (fun y hy => (h.tk y hy).2.1)), f.own, h.lK, h.wb, h.kf, fun y hy => ?_, ⟨f.os.trans h.bel.os, f.tape.trans h.bel.tape, f.output.trans h.bel.output, Nat.le_trans h.bel.size f.size, fun k hk => (f.keep k (Nat.lt_of_lt_of_le hk hB) (by have := h.lK; omega) (fun y hy => by have := (h.tok.lt y hy).1; omega)).trans (h.bel.block k hk)⟩⟩
  rcases f.new y hy with h1 | h1
  · exact h.tk y h1
  · exact ⟨by have := h.blk.lt; omega, by have := (h.fi.lt _ rfl).2; simp only at this; omega, fun e => by have := (h.w.lt e).2; omega⟩
def startT (n : NN) : List Int := n.arcs.map NA.s
theorem start_nth {n : NN} {k : Nat} (h : k < n.arcs.length) : nth (startT n) k = (nthNa n.arcs k).s := by
  unfold nth startT nthNa
  rw [List.getD_eq_getElem?_getD, List.getD_eq_getElem?_getD, List.getElem?_map, List.getElem?_eq_getElem h]
  rfl
theorem start_in {n : NN} (h : SoundN n) : InR (startT n) := by
  intro k
  by_cases hk : k < n.arcs.length
  · rw [start_nth hk]; have := (h.arcs k hk).s; omega
  · unfold nth startT
    rw [List.getD_eq_getElem?_getD, List.getElem?_eq_none (by simpa using Nat.le_of_not_lt hk)]
    exact ⟨by decide, by decide⟩
theorem LN.fin {B : Nat} {w0 wr : World} {n : NN} {N K : Nat} {aA : Option Addr} {cA H1 H2 : Nat} {D1 D2 : Nat → Option Addr} {E1 E2 : Nat → Nat} {aT : Option Addr} {cT gF : Nat} (hS : SoundN n) (hN : n.nodes.toNat = N) (h : LN B w0 wr n.arcs N K (startT n) aA cA H1 H2 D1 D2 E1 E2 aT cT gF) : StP B wr.heap.size wr K n (startT n) (List.replicate N 0) aA cA H1 H2 D1 D2 E1 E2 aT cT gF := by
  have inr0 : InR (List.replicate N (0 : Int)) := fun k => by
    unfold nth
    rw [List.getD_eq_getElem?_getD]
    by_cases hk : k < N
    · rw [List.getElem?_replicate, if_pos hk]; exact ⟨by decide, by decide⟩
    · rw [List.getElem?_replicate, if_neg hk]; exact ⟨by decide, by decide⟩
  subst hN
  have fx : ∀ k, WbN n.nodes.toNat aA H1 H2 D1 D2 k → Fix B wr.heap.size aT gF k := fun k hk => ⟨(h.w.lt hk).1, (h.w.lt hk).2, fun y hy e => (h.tk y hy).2.2 (by rw [← e]; exact hk), (h.wb k hk).2⟩
  exact ⟨h.blk, h.w.arcs, fun v hv => ⟨h.w.t1.long.cell hv, (h.w.t1.own v hv).at⟩, fun v hv => ⟨h.w.t2.long.cell hv, (h.w.t2.own v hv).at⟩, h.tok, h.fi, by unfold startT; rw [List.length_map], by rw [List.length_replicate], start_in hS, inr0, hS,
    ⟨h.lK, h.blk.lt, fun y hy e => (h.tk y hy).1 e.symm, h.kf⟩, fun x hx => fx _ (.inl ⟨x, hx, rfl⟩), fx _ (.inr (.inl (.inl rfl))), fx _ (.inr (.inr (.inl rfl))), fun v hv x hx => fx _ (.inr (.inl (.inr ⟨v, x, hv, hx, rfl⟩))), fun v hv x hx => fx _ (.inr (.inr (.inr ⟨v, x, hv, hx, rfl⟩))), fun y hy => ⟨(h.tok.lt y hy).1, (h.tok.lt y hy).2, (h.tk y hy).2.1⟩, ⟨(h.fi.lt _ rfl).1, (h.fi.lt _ rfl).2⟩, Nat.le_refl _⟩
/-- How New ends. -/
def NewE (n : NN) (w : World) (e : Ending) (w' : World) : Prop :=
  if checkN n = 0 then ∃ K E, e = .returned (.tuple #[.pointer (some ⟨K, 0, none⟩), .int .i64 0]) ∧ StE w.heap.size E w' K n (startT n) (List.replicate n.nodes.toNat 0) ∧ Below w.heap.size w w'
  else e = .returned (.tuple #[.pointer none, .int .i64 (checkN n)]) ∧ Below w.heap.size w w'

theorem start_take {n : NN} {q : Nat} (h : q < n.arcs.length) : (startT n).take q ++ [(nthNa n.arcs q).s] = (startT n).take (q + 1) := by
  have hl : (startT n).length = n.arcs.length := by unfold startT; rw [List.length_map]
  have h1 := start_nth h
  unfold nth at h1
  rw [List.getD_eq_getElem?_getD, List.getElem?_eq_getElem (by omega)] at h1
  rw [List.take_add_one, List.getElem?_eq_getElem (by omega)]
  simp at h1
  simp [h1]
set_option maxRecDepth 100000 in
set_option maxHeartbeats 16000000 in
theorem new_any (n : NN) (a : Option Addr) (c : Nat) (w : World) (h : AtN w a n.arcs) (hl : n.arcs.length ≤ 4611686018427387904) (hna : a = none → n.arcs.length = 0 ∧ c = 0) : Calls Try.prog 12 #[.agg #[.int .i64 n.nodes, .slice a n.arcs.length c]] w (NewE n w) := by
  have CK := hiddenN (fun (U : World) (hb : Below w.heap.size w U) => checkN_any n a c U (h.below hb) hl)
  by_cases hc0 : checkN n = 0
  · have hS := check_sound hc0
    have hnn := nodes_nat hS
    have WD0 := hiddenN (fun (U : World) (hb : Below w.heap.size w U) => wired_any n a c U hS (h.below hb) hna)
    obtain ⟨NE, hNE⟩ : ∃ R, NewE n w = R := ⟨_, rfl⟩
    rw [hNE]
    have HNE := hiddenN hNE
    have HFIN := hiddenN (fun (wr : World) (K : Nat) (aA : Option Addr) (cA H1 H2 : Nat) (D1 D2 : Nat → Option Addr) (E1 E2 : Nat → Nat) (aT : Option Addr) (cT gF : Nat) (hL : LN w.heap.size w wr n.arcs n.nodes.toNat K (startT n) aA cA H1 H2 D1 D2 E1 E2 aT cT gF) => hL.fin hS rfl)
    have HTK := hiddenN (fun q (hq : q < n.arcs.length) => start_take (n := n) hq)
    have HTA : Hid ((startT n).take n.arcs.length = startT n) := List.take_of_length_le (by unfold startT; rw [List.length_map]; exact Nat.le_refl _)
    have HTL : Hid ((startT n).length = n.arcs.length) := by show _ = _; unfold startT; rw [List.length_map]
    have hmost := hS.most
    have HA := hiddenN h
    rw [hc0] at CK
    obtain ⟨L, hL⟩ : ∃ L, n.arcs = L := ⟨_, rfl⟩
    obtain ⟨N, hN⟩ : ∃ N, n.nodes.toNat = N := ⟨_, rfl⟩
    obtain ⟨len, hlen⟩ : ∃ q, L.length = q := ⟨_, rfl⟩
    have HLL : Hid (L.length = len) := hlen
    have WD1 : Hid (∀ (U : World), Below w.heap.size w U → Calls Try.prog 31 #[.agg #[.int .i64 (N : Int), .slice a len c]] U fun e w' => ∃ (aA : Option Addr) (cA H1 H2 : Nat) (D1 D2 : Nat → Option Addr) (E1 E2 : Nat → Nat), e = .returned (.agg #[.slice aA len cA, .slice (some ⟨H1, 0, none⟩) N N, .slice (some ⟨H2, 0, none⟩) N N]) ∧ AtN w' aA L ∧ (∀ x, aA = some x → U.heap.size ≤ x.block ∧ x.block < w'.heap.size) ∧ TabN U.heap.size w' H1 N D1 E1 (fun v => posU (toB (v : Int)) L L.length) ∧ TabN U.heap.size w' H2 N D2 E2 (fun v => posU (fromB (v : Int)) L L.length) ∧ Below U.heap.size U w') := fun U hb => by
      have r := WD0.out U hb
      unfold WiredE inArcsN outArcsN at r
      rw [hL, hN, hlen, ← hnn.1, hN] at r
      rw [hlen]
      exact r
    rw [hN] at hnn HFIN
    rw [hL] at CK HA HFIN HTK HTA HTL hmost ⊢
    rw [hlen] at CK HTK HTA HTL hmost ⊢
    rw [← hnn.1] at CK ⊢
    have hn2 := hnn.2
    clear hnn
    have HC0 := hiddenN hc0
    have HNN := hiddenN hN
    clear WD0 hNE hS h hc0 hna hl
    have b0 := (Below.refl w.heap.size w).alloc (Nat.le_refl _) (.cells #[.int .i64 (N : Int), .slice a len c] 24)
    have G0 := hiddenN (blkA_new 24 w #[.int .i64 (N : Int), .slice a len c])
    have B0 := hiddenN b0
    have CK1 := hiddenN (CK.out _ b0)
    have z0 := G0.out.cell (k := 0) rfl
    have z1 := G0.out.cell (k := 1) rfl
    simp only [List.getElem_toArray, List.getElem_cons_zero, List.getElem_cons_succ] at z0 z1
    clear b0 CK
    go_enter Try.func12, Try.ntmps12
    go_upto_region 1 with fail
    generalize w.alloc (.cells #[.int .i64 (N : Int), .slice a len c] 24) = W0 at *
    go_upto_region 4 with (go_at_call 11; (with_reducible refine CK1.out.mono ?_); rintro e W1 ⟨rfl, b1⟩; have B1 := hiddenN (B0.out.trans (b1.mono B0.out.size)); have G1 := hiddenN (G0.out.below b1); clear b1 z0 z1)
    have z0 := G1.out.cell (k := 0) rfl
    have z1 := G1.out.cell (k := 1) rfl
    simp only [List.getElem_toArray, List.getElem_cons_zero, List.getElem_cons_succ] at z0 z1
    have WD : Hid (∀ (U : World), Below W1.heap.size W1 U → Calls Try.prog 31 #[.agg #[.int .i64 (N : Int), .slice a len c]] U fun e w' => ∃ (aA : Option Addr) (cA H1 H2 : Nat) (D1 D2 : Nat → Option Addr) (E1 E2 : Nat → Nat), e = .returned (.agg #[.slice aA len cA, .slice (some ⟨H1, 0, none⟩) N N, .slice (some ⟨H2, 0, none⟩) N N]) ∧ AtN w' aA L ∧ (∀ x, aA = some x → U.heap.size ≤ x.block ∧ x.block < w'.heap.size) ∧ TabN U.heap.size w' H1 N D1 E1 (fun v => posU (toB (v : Int)) L L.length) ∧ TabN U.heap.size w' H2 N D2 E2 (fun v => posU (fromB (v : Int)) L L.length) ∧ Below U.heap.size U w') := fun U hb => WD1.out U (B1.out.trans (hb.mono B1.out.size))
    have HM := hiddenN (run_make_row' (P := Try.prog) 45 3 (.int .i64 0) 8 Try.underlying45 Try.info3 rfl .i64 .i64 N (by omega) (by omega))
    clear WD1 CK1 G0 B0

    refine wp_region_gho [1, 4] (fun y d i u z => match i with
        | 0 => z = .agg #[.int .i64 (N : Int), .slice a len c]
        | 1 => (d 1 = true ∧ z = .agg #[.slice y.aA len y.cA, .slice (some ⟨y.H1, 0, none⟩) N N, .slice (some ⟨y.H2, 0, none⟩) N N])
        | 2 => z = .pointer (some ⟨w.heap.size, 0, none⟩)
        | 3 => z = .int .i64 (N : Int)
        | 4 => (d 4 = true ∧ z = .slice (some ⟨y.gF, 0, none⟩) N N)
        | 5 => ((d 1 = true ∧ d 4 = true) ∧ z = .agg #[.slice y.aA len y.cA, .slice (some ⟨y.H1, 0, none⟩) N N, .slice (some ⟨y.H2, 0, none⟩) N N, .slice none 0 0, .slice (some ⟨y.gF, 0, none⟩) N N])
        | 6 => ((d 1 = true ∧ d 4 = true) ∧ ∃ K, z = .pointer (some ⟨K, 0, none⟩) ∧ BlkA 72 K u #[.slice y.aA len y.cA, .slice (some ⟨y.H1, 0, none⟩) N N, .slice (some ⟨y.H2, 0, none⟩) N N, .slice none 0 0, .slice (some ⟨y.gF, 0, none⟩) N N] ∧ W1.heap.size ≤ K ∧ (∀ k, WbN N y.aA y.H1 y.H2 y.D1 y.D2 k → k ≠ K) ∧ K ≠ y.gF)
        | 7 => ((d 1 = true ∧ d 4 = true) ∧ ∃ K, z = .pointer (some ⟨K, 0, none⟩) ∧ BlkA 72 K u #[.slice y.aA len y.cA, .slice (some ⟨y.H1, 0, none⟩) N N, .slice (some ⟨y.H2, 0, none⟩) N N, .slice none 0 0, .slice (some ⟨y.gF, 0, none⟩) N N] ∧ W1.heap.size ≤ K ∧ (∀ k, WbN N y.aA y.H1 y.H2 y.D1 y.D2 k → k ≠ K) ∧ K ≠ y.gF)
        | _ => True) (fun y d u => CN W1 L N y d u) (⟨none, 0, 0, 0, fun _ => none, fun _ => none, fun _ => 0, fun _ => 0, 0⟩) (by kernel_rfl) (by kernel_rfl) (by kernel_rfl) ?_ ?_ ?_ ?_ ?_ ?_ (by kernel_rfl)
    · intro y d i w v w' h hb
      match i, h with
      | 0, h => exact h
      | 1, h => exact h
      | 2, h => exact h
      | 3, h => exact h
      | 4, h => exact h
      | 5, h => exact h
      | 6, h => exact ⟨h.1, by obtain ⟨K, h1, h2, h3⟩ := h.2; exact ⟨K, h1, h2.below hb, h3⟩⟩
      | 7, h => exact ⟨h.1, by obtain ⟨K, h1, h2, h3⟩ := h.2; exact ⟨K, h1, h2.below hb, h3⟩⟩
      | _ + 8, _ => trivial
    · intro y d u u' h hb
      exact CN.later h hb
    · exact CN.start _ _ _ _
    · intro y d i o ρ w' hm ho hf hg hC hcs hfs hfr hdep
      match i, hm, ho, hf, hg, hfr, hdep with
      | 0, _, ho, hf, hg, hfr, hdep =>
        simp only [List.getElem?_toArray, List.getElem?_cons_zero, Option.some.injEq] at ho
        subst ho
        refine ⟨fun _ => ?_, fun hw => absurd (show true = false from hw) (by decide)⟩
        have ts : ρ (.tmp 1) = .pointer (some ⟨w.heap.size, 0, none⟩) := hfr 1 (by kernel_rfl)
        have k0 := cellN_later hC.bel z0
        have k1 := cellN_later hC.bel z1
        simp [go_sem, ts, k0, k1]
        exact ⟨Below.refl _ _, rfl⟩
      | 1, hm, _, _, _, _, _ => exact absurd hm (by decide)
      | 2, _, ho, hf, hg, hfr, hdep =>
        simp only [List.getElem?_toArray, List.getElem?_cons_zero, List.getElem?_cons_succ, Option.some.injEq] at ho
        subst ho
        refine ⟨fun _ => ?_, fun hw => absurd (show true = false from hw) (by decide)⟩
        have ts : ρ (.tmp 1) = .pointer (some ⟨w.heap.size, 0, none⟩) := hfr 1 (by kernel_rfl)
        simp [go_sem, ts]
        exact ⟨Below.refl _ _, rfl⟩
      | 3, _, ho, hf, hg, hfr, hdep =>
        simp only [List.getElem?_toArray, List.getElem?_cons_zero, List.getElem?_cons_succ, Option.some.injEq] at ho
        subst ho
        refine ⟨fun _ => ?_, fun hw => absurd (show true = false from hw) (by decide)⟩
        have k0 := cellN_later hC.bel z0
        have d0 : ρ (.tmp 15) = .pointer (some ⟨w.heap.size, 0, none⟩) := hdep 2 15 (by kernel_rfl) (by kernel_rfl)
        simp [go_sem, d0, k0]
        exact ⟨Below.refl _ _, rfl⟩
      | 4, hm, _, _, _, _, _ => exact absurd hm (by decide)
      | 5, _, ho, hf, hg, hfr, hdep =>
        simp only [List.getElem?_toArray, List.getElem?_cons_zero, List.getElem?_cons_succ, Option.some.injEq] at ho
        subst ho
        refine ⟨fun _ => ?_, fun hw => absurd (show true = false from hw) (by decide)⟩
        obtain ⟨q1, t1⟩ : d 1 = true ∧ ρ (.tmp 14) = .agg #[.slice y.aA len y.cA, .slice (some ⟨y.H1, 0, none⟩) N N, .slice (some ⟨y.H2, 0, none⟩) N N] := hdep 1 14 (by kernel_rfl) (by kernel_rfl)
        obtain ⟨q4, t4⟩ : d 4 = true ∧ ρ (.tmp 17) = .slice (some ⟨y.gF, 0, none⟩) N N := hdep 4 17 (by kernel_rfl) (by kernel_rfl)
        simp [go_sem, t1, t4]
        exact ⟨Below.refl _ _, ⟨q1, q4⟩, rfl⟩
      | 6, _, ho, hf, hg, hfr, hdep =>
        simp only [List.getElem?_toArray, List.getElem?_cons_zero, List.getElem?_cons_succ, Option.some.injEq] at ho
        subst ho
        refine ⟨fun _ => ?_, fun hw => absurd (show true = false from hw) (by decide)⟩
        obtain ⟨qq, t5⟩ : (d 1 = true ∧ d 4 = true) ∧ ρ (.tmp 18) = .agg #[.slice y.aA len y.cA, .slice (some ⟨y.H1, 0, none⟩) N N, .slice (some ⟨y.H2, 0, none⟩) N N, .slice none 0 0, .slice (some ⟨y.gF, 0, none⟩) N N] := hdep 5 18 (by kernel_rfl) (by kernel_rfl)
        simp [go_sem, t5]
        exact ⟨(Below.refl _ _).alloc (Nat.le_refl _) _, qq, w'.heap.size, rfl, blkA_new 72 w' _, hC.bel.size, fun k hk => by have := ((hC.wr qq.1).lt hk).2; omega, by have := ((hC.fi qq.2).lt _ rfl).2; simp only at this; omega⟩
      | 7, _, ho, hf, hg, hfr, hdep =>
        simp only [List.getElem?_toArray, List.getElem?_cons_zero, List.getElem?_cons_succ, Option.some.injEq] at ho
        subst ho
        refine ⟨fun _ => ?_, fun hw => absurd (show true = false from hw) (by decide)⟩
        obtain ⟨qq, K, t6, rest⟩ : (d 1 = true ∧ d 4 = true) ∧ ∃ K, ρ (.tmp 19) = .pointer (some ⟨K, 0, none⟩) ∧ BlkA 72 K w' #[.slice y.aA len y.cA, .slice (some ⟨y.H1, 0, none⟩) N N, .slice (some ⟨y.H2, 0, none⟩) N N, .slice none 0 0, .slice (some ⟨y.gF, 0, none⟩) N N] ∧ W1.heap.size ≤ K ∧ (∀ k, WbN N y.aA y.H1 y.H2 y.D1 y.D2 k → k ≠ K) ∧ K ≠ y.gF := hdep 6 19 (by kernel_rfl) (by kernel_rfl)
        simp [go_sem, t6]
        exact ⟨Below.refl _ _, qq, K, rfl, rest⟩
      | n + 8, _, ho, _, _, _, _ => simp at ho
    · intro y d i o ρ w' hm ho h0 hf hg hC hcs hfs hfr hdep
      match i, hm, ho, h0, hf, hg, hfr, hdep with
      | 0, hm, _, _, _, _, _, _ => exact absurd hm (by decide)
      | 1, _, ho, h0, hf, hg, hfr, hdep =>
        simp only [List.getElem?_toArray, List.getElem?_cons_zero, List.getElem?_cons_succ, Option.some.injEq] at ho
        subst ho
        have t0 : ρ (.tmp 13) = .agg #[.int .i64 (N : Int), .slice a len c] := hdep 0 13 (by kernel_rfl) (by kernel_rfl)
        have CLw := WD.out w' hC.bel
        refine ⟨rfl, ?_⟩
        simp [go_sem, markUpon, t0, hfs]
        refine CLw.mono ?_
        rintro e w'' ⟨aA, cA, H1, H2, D1, D2, E1, E2, rfl, q1, q2, q3, q4, q5⟩
        refine ⟨_, rfl, ⟨aA, cA, H1, H2, D1, D2, E1, E2, y.gF⟩, hC.m1 ⟨q1, q2, q3, q4⟩ q5, ⟨doneAt_eq _ _, by first | rfl | (simp only [HLL.out])⟩, ?_⟩
        intro j t hj hs
        match j, hs with
        | 0, hs => exact hs
        | 1, hs => exact absurd hs.1 (by rw [h0]; decide)
        | 2, hs => exact hs
        | 3, hs => exact hs
        | 4, hs => exact ⟨(doneAt_ne d (by decide)).trans hs.1, hs.2⟩
        | 5, hs => exact absurd hs.1.1 (by rw [h0]; decide)
        | 6, hs => exact absurd hs.1.1 (by rw [h0]; decide)
        | 7, hs => exact absurd hs.1.1 (by rw [h0]; decide)
        | _ + 8, _ => trivial
      | 2, hm, _, _, _, _, _, _ => exact absurd hm (by decide)
      | 3, hm, _, _, _, _, _, _ => exact absurd hm (by decide)
      | 4, _, ho, h0, hf, hg, hfr, hdep =>
        simp only [List.getElem?_toArray, List.getElem?_cons_zero, List.getElem?_cons_succ, Option.some.injEq] at ho
        subst ho
        have t0 : ρ (.tmp 16) = .int .i64 (N : Int) := hdep 3 16 (by kernel_rfl) (by kernel_rfl)
        refine ⟨rfl, ?_⟩
        simp [go_sem, markUpon, t0, HM.out]
        refine ⟨⟨y.aA, y.cA, y.H1, y.H2, y.D1, y.D2, y.E1, y.E2, w'.heap.size⟩, hC.m4 (by omega), ⟨doneAt_eq _ _, rfl⟩, ?_⟩
        intro j t hj hs
        match j, hs with
        | 0, hs => exact hs
        | 1, hs => exact ⟨(doneAt_ne d (by decide)).trans hs.1, hs.2⟩
        | 2, hs => exact hs
        | 3, hs => exact hs
        | 4, hs => exact absurd hs.1 (by rw [h0]; decide)
        | 5, hs => exact absurd hs.1.2 (by rw [h0]; decide)
        | 6, hs => exact absurd hs.1.2 (by rw [h0]; decide)
        | 7, hs => exact absurd hs.1.2 (by rw [h0]; decide)
        | _ + 8, _ => trivial
      | 5, hm, _, _, _, _, _, _ => exact absurd hm (by decide)
      | 6, hm, _, _, _, _, _, _ => exact absurd hm (by decide)
      | 7, hm, _, _, _, _, _, _ => exact absurd hm (by decide)
      | n + 8, _, ho, _, _, _, _, _ => simp at ho
    · intro y9 V w9 hC9 hS
      obtain ⟨-, K, e7, k1, k2, k3, k4⟩ := hS 7 (by decide) (by intro h; cases h)
      simp only [puts, e7]
      simp only [Act.put, List.setIfInBounds_toArray, List.set_cons_zero, List.set_cons_succ]
      clear hS e7
      have hW := hC9.wr rfl
      have hFi := hC9.fi rfl
      have hDi := hC9.dis rfl rfl
      have hBl := hC9.bel
      have hw1 := B1.out.size
      have LN0 : LN w.heap.size w w9 L N K [] y9.aA y9.cA y9.H1 y9.H2 y9.D1 y9.D2 y9.E1 y9.E2 none 0 y9.gF :=
        ⟨by rw [HLL.out]; exact k1, hW.mono hw1, hFi.mono hw1, CapR.nil _ _, by omega, fun k hk => ⟨k3 k hk, hDi k hk⟩, k4, (fun y hy => by cases hy), B1.out.trans (hBl.mono hw1)⟩
      have HW0 := hiddenN LN0
      have B9 := hiddenN (B1.out.trans (hBl.mono hw1))
      have g1 := (G1.out.below hBl).cell (k := 1) rfl
      simp only [List.getElem_toArray, List.getElem_cons_zero, List.getElem_cons_succ] at g1
      clear hC9 hW hFi hDi hBl LN0 k1 k2 k3 k4 z0 z1 HM WD
      generalize y9.aA = aA at *
      generalize y9.cA = cA at *
      generalize y9.H1 = H1 at *
      generalize y9.H2 = H2 at *
      generalize y9.D1 = D1 at *
      generalize y9.D2 = D2 at *
      generalize y9.E1 = E1 at *
      generalize y9.E2 = E2 at *
      generalize y9.gF = gF at *
      go_wp2
      go_loopg [23] len (fun gk v wr => ∃ (q : Nat) (aT : Option Addr) (cT : Nat), q ≤ len ∧ gk = len - q ∧ v = .int .i64 (q : Int) ∧ LN w.heap.size w wr L N K ((startT n).take q) aA cA H1 H2 D1 D2 E1 E2 aT cT gF)
      case atStart => exact ⟨0, _, _, Nat.zero_le _, rfl, rfl, HW0.out⟩
      case round =>
        clear HW0 B9 g1
        obtain ⟨q, aT, cT, hq, rfl, rfl, hW⟩ := hrel
        have HW := hiddenN hW
        clear hW
        by_cases hlt : q < len
        · have hki : (q : Int) < (len : Int) := by omega
          rcases HA.out.below HW.out.bel with e | ⟨b, off, rfl, hc⟩
          · have := HLL.out; rw [e] at this; simp at this; omega
          obtain ⟨c0, c1, c2, c3, c4⟩ := hc q (by have := HLL.out; omega)
          have TK := hiddenN (HTK.out q hlt)
          have hTl : ((startT n).take q).length = q := by have h1 := HTL.out; rw [List.length_take]; omega
          generalize (startT n).take q = T at *
          generalize (nthNa L q).f = ff at *
          generalize (nthNa L q).t = tt at *
          generalize (nthNa L q).g = gg at *
          generalize (nthNa L q).k = kk at *
          generalize (nthNa L q).s = ss at *
          clear hc
          go_upto_region 8 with fail
          have bc := (Below.refl wr.heap.size wr).alloc (Nat.le_refl _) (.cells #[.int .i64 ff, .int .i64 tt, .int .i64 gg, .int .i64 kk, .int .i64 ss] 44)
          have XA := hiddenN (blkA_new 44 wr #[.int .i64 ff, .int .i64 tt, .int .i64 gg, .int .i64 kk, .int .i64 ss])
          have hVw := HW.out.bel.size
          have LX := hiddenN (HW.out.later bc hVw)
          have LB : Hid (w.heap.size ≤ (wr.alloc (.cells #[.int .i64 ff, .int .i64 tt, .int .i64 gg, .int .i64 kk, .int .i64 ss] 44)).heap.size) := Nat.le_trans hVw bc.size
          have NAT : Hid (∀ y, aT = some y → y.block ≠ wr.heap.size) := fun y hy => by have := (HW.out.tok.lt y hy).2; omega
          obtain ⟨ab, hab'⟩ : ∃ ab, wr.heap.size = ab := ⟨_, rfl⟩
          rw [hab'] at XA NAT ⊢
          generalize wr.alloc (.cells #[.int .i64 ff, .int .i64 tt, .int .i64 gg, .int .i64 kk, .int .i64 ss] 44) = V1 at *
          clear bc c0 c1 c2 c3 c4 hab'

          refine wp_region_gen [8, 11] (fun d i u z => match i with
              | 0 => z = .pointer (some ⟨K, 0, none⟩)
              | 1 => z = .pointer (some ⟨K, 0, none⟩)
              | 2 => z = .pointer (some ⟨K, 0, none⟩)
              | 3 => z = .pointer (some ⟨K, 3, none⟩)
              | 4 => z = .slice aT T.length cT
              | 5 => z = .pointer (some ⟨ab, 4, none⟩)
              | 6 => z = .int .i64 ss
              | 7 => (d 8 = false → ∃ g, z = .slice (some ⟨g, 0, none⟩) 1 1 ∧ u.cell? ⟨g, 0, none⟩ = some (.int .i64 ss))
              | 8 => (d 8 = true ∧ (d 11 = false → ∃ dd cc, z = .slice dd (T.length + 1) cc ∧ GrwN w.heap.size V1 aT (T ++ [ss]) u dd cc))
              | 9 => z = .pointer (some ⟨K, 0, none⟩)
              | 10 => z = .pointer (some ⟨K, 3, none⟩)
              | 11 => True
              | _ => True) (fun d u => (d 8 = false → Below V1.heap.size V1 u) ∧ V1.heap.size ≤ u.heap.size ∧ (d 11 = true → ∃ dd cc, FinT w.heap.size V1 K #[.slice aA L.length cA, .slice (some ⟨H1, 0, none⟩) N N, .slice (some ⟨H2, 0, none⟩) N N, .slice aT T.length cT, .slice (some ⟨gF, 0, none⟩) N N] aT (T ++ [ss]) u dd cc) ∧ (∀ k, k < V1.heap.size → (∀ y, aT = some y → y.block ≠ k) → d 11 = false → u.heap[k]? = V1.heap[k]?)) (by kernel_rfl) (by kernel_rfl) (by kernel_rfl) ?_ ?_ ?_ ?_ ?_ ?_ (by kernel_rfl)
          · intro d i w v w' h hb
            match i, h with
            | 0, h => exact h
            | 1, h => exact h
            | 2, h => exact h
            | 3, h => exact h
            | 4, h => exact h
            | 5, h => exact h
            | 6, h => exact h
            | 7, h => exact fun e => by obtain ⟨g, h1, h2⟩ := h e; exact ⟨g, h1, cellN_later hb h2⟩
            | 8, h => exact ⟨h.1, fun e => by obtain ⟨dd, cc, h1, h2⟩ := h.2 e; exact ⟨dd, cc, h1, h2.later hb⟩⟩
            | 9, h => exact h
            | 10, h => exact h
            | 11, h => exact h
            | _ + 12, _ => trivial
          · intro d u u' h hb
            exact ⟨fun e => (h.1 e).trans (hb.mono (h.1 e).size), Nat.le_trans h.2.1 hb.size, fun e => by obtain ⟨dd, cc, hF⟩ := h.2.2.1 e; exact ⟨dd, cc, hF.later hb⟩, fun k hk hn e => (hb.block k (Nat.lt_of_lt_of_le hk h.2.1)).trans (h.2.2.2 k hk hn e)⟩
          · exact ⟨fun _ => Below.refl _ _, Nat.le_refl _, fun e => absurd e (by decide), fun _ _ _ _ => rfl⟩
          · intro d i o ρ w' hm ho hf hg hC hcs hfs hfr hdep
            match i, hm, ho, hf, hg, hfr, hdep with
            | 0, _, ho, hf, hg, hfr, hdep =>
              simp only [List.getElem?_toArray, List.getElem?_cons_zero, Option.some.injEq] at ho
              subst ho
              refine ⟨fun _ => ?_, fun hw => absurd (show true = false from hw) (by decide)⟩
              have ts : ρ (.tmp 5) = .pointer (some ⟨K, 0, none⟩) := hfr 5 (by kernel_rfl)
              simp [go_sem, ts]
              exact ⟨Below.refl _ _, rfl⟩
            | 1, _, ho, hf, hg, hfr, hdep =>
              simp only [List.getElem?_toArray, List.getElem?_cons_zero, List.getElem?_cons_succ, Option.some.injEq] at ho
              subst ho
              refine ⟨fun _ => ?_, fun hw => absurd (show true = false from hw) (by decide)⟩
              have ts : ρ (.tmp 5) = .pointer (some ⟨K, 0, none⟩) := hfr 5 (by kernel_rfl)
              simp [go_sem, ts]
              exact ⟨Below.refl _ _, rfl⟩
            | 2, _, ho, hf, hg, hfr, hdep =>
              simp only [List.getElem?_toArray, List.getElem?_cons_zero, List.getElem?_cons_succ, Option.some.injEq] at ho
              subst ho
              refine ⟨fun _ => ?_, fun hw => absurd (show true = false from hw) (by decide)⟩
              have d0 : ρ (.tmp 28) = .pointer (some ⟨K, 0, none⟩) := hdep 1 28 (by kernel_rfl) (by kernel_rfl)
              simp [go_sem, d0]
              exact ⟨Below.refl _ _, rfl⟩
            | 3, _, ho, hf, hg, hfr, hdep =>
              simp only [List.getElem?_toArray, List.getElem?_cons_zero, List.getElem?_cons_succ, Option.some.injEq] at ho
              subst ho
              refine ⟨fun _ => ?_, fun hw => absurd (show true = false from hw) (by decide)⟩
              have d0 : ρ (.tmp 29) = .pointer (some ⟨K, 0, none⟩) := hdep 2 29 (by kernel_rfl) (by kernel_rfl)
              simp [go_sem, d0]
              exact ⟨Below.refl _ _, rfl⟩
            | 4, _, ho, hf, hg, hfr, hdep =>
              simp only [List.getElem?_toArray, List.getElem?_cons_zero, List.getElem?_cons_succ, Option.some.injEq] at ho
              subst ho
              refine ⟨fun _ => ?_, fun hw => absurd (show true = false from hw) (by decide)⟩
              have h8 : d 8 = false := hf 8 (by decide) (by kernel_rfl)
              have cc : w'.cell? ⟨K, 3, none⟩ = some (.slice aT T.length cT) := (LX.out.blk.below (hC.1 h8)).cell rfl
              have d0 : ρ (.tmp 30) = .pointer (some ⟨K, 3, none⟩) := hdep 3 30 (by kernel_rfl) (by kernel_rfl)
              simp [go_sem, d0, cc]
              exact ⟨Below.refl _ _, rfl⟩
            | 5, _, ho, hf, hg, hfr, hdep =>
              simp only [List.getElem?_toArray, List.getElem?_cons_zero, List.getElem?_cons_succ, Option.some.injEq] at ho
              subst ho
              refine ⟨fun _ => ?_, fun hw => absurd (show true = false from hw) (by decide)⟩
              have ts : ρ (.tmp 7) = .pointer (some ⟨ab, 0, none⟩) := hfr 7 (by kernel_rfl)
              simp [go_sem, ts]
              exact ⟨Below.refl _ _, rfl⟩
            | 6, _, ho, hf, hg, hfr, hdep =>
              simp only [List.getElem?_toArray, List.getElem?_cons_zero, List.getElem?_cons_succ, Option.some.injEq] at ho
              subst ho
              refine ⟨fun _ => ?_, fun hw => absurd (show true = false from hw) (by decide)⟩
              have h11 : d 11 = false := hf 11 (by decide) (by kernel_rfl)
              have cc : w'.cell? ⟨ab, 4, none⟩ = some (.int .i64 ss) := (XA.out.keep (hC.2.2.2 ab XA.out.lt NAT.out h11)).cell rfl
              have d0 : ρ (.tmp 32) = .pointer (some ⟨ab, 4, none⟩) := hdep 5 32 (by kernel_rfl) (by kernel_rfl)
              simp [go_sem, d0, cc]
              exact ⟨Below.refl _ _, rfl⟩
            | 7, _, ho, hf, hg, hfr, hdep =>
              simp only [List.getElem?_toArray, List.getElem?_cons_zero, List.getElem?_cons_succ, Option.some.injEq] at ho
              subst ho
              refine ⟨fun _ => ?_, fun hw => absurd (show true = false from hw) (by decide)⟩
              have t0 : ρ (.tmp 33) = .int .i64 ss := hdep 6 33 (by kernel_rfl) (by kernel_rfl)
              simp [go_sem, t0]
              exact ⟨(Below.refl _ _).alloc (Nat.le_refl _) _, fun _ => ⟨w'.heap.size, rfl, by simp⟩⟩
            | 8, hm, _, _, _, _, _ => exact absurd hm (by decide)
            | 9, _, ho, hf, hg, hfr, hdep =>
              simp only [List.getElem?_toArray, List.getElem?_cons_zero, List.getElem?_cons_succ, Option.some.injEq] at ho
              subst ho
              refine ⟨fun _ => ?_, fun hw => absurd (show true = false from hw) (by decide)⟩
              have d0 : ρ (.tmp 27) = .pointer (some ⟨K, 0, none⟩) := hdep 0 27 (by kernel_rfl) (by kernel_rfl)
              simp [go_sem, d0]
              exact ⟨Below.refl _ _, rfl⟩
            | 10, _, ho, hf, hg, hfr, hdep =>
              simp only [List.getElem?_toArray, List.getElem?_cons_zero, List.getElem?_cons_succ, Option.some.injEq] at ho
              subst ho
              refine ⟨fun _ => ?_, fun hw => absurd (show true = false from hw) (by decide)⟩
              have d0 : ρ (.tmp 36) = .pointer (some ⟨K, 0, none⟩) := hdep 9 36 (by kernel_rfl) (by kernel_rfl)
              simp [go_sem, d0]
              exact ⟨Below.refl _ _, rfl⟩
            | 11, hm, _, _, _, _, _ => exact absurd hm (by decide)
            | n + 12, _, ho, _, _, _, _ => simp at ho
          · intro d i o ρ w' hm ho h0 hf hg hC hcs hfs hfr hdep
            match i, hm, ho, h0, hf, hg, hfr, hdep with
            | 0, hm, _, _, _, _, _, _ => exact absurd hm (by decide)
            | 1, hm, _, _, _, _, _, _ => exact absurd hm (by decide)
            | 2, hm, _, _, _, _, _, _ => exact absurd hm (by decide)
            | 3, hm, _, _, _, _, _, _ => exact absurd hm (by decide)
            | 4, hm, _, _, _, _, _, _ => exact absurd hm (by decide)
            | 5, hm, _, _, _, _, _, _ => exact absurd hm (by decide)
            | 6, hm, _, _, _, _, _, _ => exact absurd hm (by decide)
            | 7, hm, _, _, _, _, _, _ => exact absurd hm (by decide)
            | 8, _, ho, h0, hf, hg, hfr, hdep =>
              simp only [List.getElem?_toArray, List.getElem?_cons_zero, List.getElem?_cons_succ, Option.some.injEq] at ho
              subst ho
              have t0 : ρ (.tmp 31) = .slice aT T.length cT := hdep 4 31 (by kernel_rfl) (by kernel_rfl)
              obtain ⟨g, t1, cg⟩ : ∃ g, ρ (.tmp 34) = .slice (some ⟨g, 0, none⟩) 1 1 ∧ w'.cell? ⟨g, 0, none⟩ = some (.int .i64 ss) := hdep 7 34 (by kernel_rfl) (by kernel_rfl) h0
              have h11 : d 11 = false := hf 11 (by decide) (by kernel_rfl)
              refine ⟨rfl, mark_appN (.tmp 31) (.tmp 34) rfl t0 t1 LX.out.tok (hC.1 h0) cg (by omega) LB.out ?_⟩
              intro u9 d9 c9 hG
              refine ⟨⟨fun e => absurd e (by rw [doneAt_eq]; decide), hG.size, fun e => absurd ((doneAt_ne d (by decide)).symm.trans e) (by rw [h11]; decide), fun k hk hn _ => hG.keep k hk hn⟩, fun _ => ⟨doneAt_eq _ _, fun _ => ⟨d9, c9, rfl, hG⟩⟩, ?_⟩
              intro j t hj hs
              match j, hs with
              | 0, hs => exact hs
              | 1, hs => exact hs
              | 2, hs => exact hs
              | 3, hs => exact hs
              | 4, hs => exact hs
              | 5, hs => exact hs
              | 6, hs => exact hs
              | 7, hs => exact fun e => absurd e (by rw [doneAt_eq]; decide)
              | 8, hs => exact absurd hs.1 (by rw [h0]; decide)
              | 9, hs => exact hs
              | 10, hs => exact hs
              | 11, _ => trivial
              | _ + 12, _ => trivial
            | 9, hm, _, _, _, _, _, _ => exact absurd hm (by decide)
            | 10, hm, _, _, _, _, _, _ => exact absurd hm (by decide)
            | 11, _, ho, h0, hf, hg, hfr, hdep =>
              simp only [List.getElem?_toArray, List.getElem?_cons_zero, List.getElem?_cons_succ, Option.some.injEq] at ho
              subst ho
              have t0 : ρ (.tmp 37) = .pointer (some ⟨K, 3, none⟩) := hdep 10 37 (by kernel_rfl) (by kernel_rfl)
              have t9 : d 8 = true ∧ (d 11 = false → ∃ dd cc, ρ (.tmp 35) = .slice dd (T.length + 1) cc ∧ GrwN w.heap.size V1 aT (T ++ [ss]) w' dd cc) := hdep 8 35 (by kernel_rfl) (by kernel_rfl)
              obtain ⟨dd, cc, e9, hG⟩ := t9.2 h0
              have hbk := LX.out.blk.keep (hG.keep K LX.out.blk.lt (fun y hy => (LX.out.tk y hy).1))
              have c1 : w'.cell? ⟨K, 3, none⟩ = some (.slice aT T.length cT) := hbk.cell rfl
              have f1 := hbk.frozen 3
              refine ⟨rfl, markUpon_skip (w' := w'.setCell ⟨K, 3, none⟩ (.slice dd (T.length + 1) cc)) (by simp [go_sem, t0, e9, c1, f1]) ?_⟩
              have hF := finT_of LX.out.blk (fun y hy => (LX.out.tk y hy).1) hG
              rw [List.length_append] at hF
              refine ⟨⟨fun e => absurd ((doneAt_ne d (by decide)).symm.trans e) (by rw [t9.1]; decide), by rw [World.size_setCell]; exact hG.size, fun _ => ⟨dd, cc, hF⟩, fun _ _ _ e => absurd e (by rw [doneAt_eq]; decide)⟩, fun h => absurd rfl h, ?_⟩
              intro j t hj hs
              match j, hs with
              | 0, hs => exact hs
              | 1, hs => exact hs
              | 2, hs => exact hs
              | 3, hs => exact hs
              | 4, hs => exact hs
              | 5, hs => exact hs
              | 6, hs => exact hs
              | 7, hs => exact fun e => absurd ((doneAt_ne d (by decide)).symm.trans e) (by rw [t9.1]; decide)
              | 8, hs => exact ⟨(doneAt_ne d (by decide)).trans hs.1, fun e => absurd e (by rw [doneAt_eq]; decide)⟩
              | 9, hs => exact hs
              | 10, hs => exact hs
              | 11, _ => trivial
              | _ + 12, _ => trivial
            | n + 12, _, ho, _, _, _, _, _ => simp at ho
          · intro V w8 hC8 hS
            simp only [puts, put_none]
            simp only [Act.put, List.setIfInBounds_toArray, List.set_cons_zero, List.set_cons_succ]
            clear hS 
            obtain ⟨dd, cc, hF⟩ := hC8.2.2.1 rfl
            have LX3 := hiddenN (LX.out.step LB.out hF)
            rw [TK.out] at LX3
            clear hC8 hF LX XA LB
            go_wp2
            go_roundg (len - (q + 1))
            case measure => omega
            case rel => exact ⟨q + 1, _, _, by omega, rfl, by go_num, LX3.out⟩
        · have ek : q = len := by omega
          subst ek
          have hki : ¬ (q : Int) < (q : Int) := by omega
          rw [HTA.out] at HW
          have FI := hiddenN (HFIN.out wr K _ _ _ _ _ _ _ _ _ _ _ HW.out)
          have BL := hiddenN HW.out.bel
          clear HW HFIN
          go_wp2
          rw [← HNE.out]
          unfold NewE
          rw [if_pos HC0.out, HNN.out]
          exact ⟨K, wr.heap.size, rfl, ⟨_, _, _, _, _, _, _, _, _, _, _, FI.out⟩, BL.out⟩
  · have eE : NewE n w = fun e w' => e = .returned (.tuple #[.pointer none, .int .i64 (checkN n)]) ∧ Below w.heap.size w w' := by
      funext e w'
      unfold NewE
      rw [if_neg hc0]
    rw [eE]
    clear eE
    have b0 := (Below.refl w.heap.size w).alloc (Nat.le_refl _) (.cells #[.int .i64 n.nodes, .slice a n.arcs.length c] 24)
    have G0 := blkA_new 24 w #[.int .i64 n.nodes, .slice a n.arcs.length c]
    have z0 := G0.cell (k := 0) rfl
    have z1 := G0.cell (k := 1) rfl
    simp only [List.getElem_toArray, List.getElem_cons_zero, List.getElem_cons_succ] at z0 z1
    have B0 := hiddenN b0
    have CK1 := hiddenN (CK.out _ b0)
    clear CK G0 b0
    go_enter Try.func12, Try.ntmps12
    go_upto_region 1 with fail
    generalize w.alloc (.cells #[.int .i64 n.nodes, .slice a n.arcs.length c] 24) = W0 at *
    go_wp2_with (go_at_call 11; (with_reducible refine CK1.out.mono ?_); rintro e W1 ⟨rfl, b1⟩; have B1 := hiddenN (B0.out.trans (b1.mono B0.out.size)); clear b1)
    go_ret2
    exact ⟨rfl, B1.out⟩
end Go.Proofs.Ytancphohpedigaa
