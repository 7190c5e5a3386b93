/- Texts of one chain, laid one behind the other. -/
import Derived.Test.YtecmkienoofccabPartBalanceBeside16
import Derived.Test.YtecmkienoofccabPartBalanceBeside18
namespace Go.Proofs.Ytecmkienoofccab
open Go.ChangeShapes Go.WideShapes Go.ChangeAt Go.RowKit
theorem doneAt_eq (d : Nat → Bool) (i : Nat) : doneAt d i i = true := by unfold doneAt; rw [if_pos rfl]
theorem doneAt_ne (d : Nat → Bool) {i j : Nat} (h : j ≠ i) : doneAt d i j = d j := by unfold doneAt; rw [if_neg h]
/-- A row that has grown by one number; what else has stayed. -/
structure GrwN (B : Nat) (V : World) (d0 : Option Addr) (L : List Int) (u : World) (d : Option Addr) (c : Nat) : Prop where
  own : CapR B u d c L
  keep : ∀ k, k < V.heap.size → (∀ y, d0 = some y → y.block ≠ k) → u.heap[k]? = V.heap[k]?
  new : ∀ z, d = some z → d0 = some z ∨ V.heap.size ≤ z.block
  size : V.heap.size ≤ u.heap.size
  os : u.os = V.os
  tape : u.tape = V.tape
  output : u.output = V.output
theorem GrwN.later {B : Nat} {V u u' : World} {d0 : Option Addr} {L : List Int} {d : Option Addr} {c : Nat} (h : GrwN B V d0 L u d c) (hb : Below u.heap.size u u') : GrwN B V d0 L u' d c :=
  ⟨h.own.later hb, fun k hk hn => (hb.block k (Nat.lt_of_lt_of_le hk h.size)).trans (h.keep k hk hn), h.new, Nat.le_trans h.size hb.size, hb.os.trans h.os, hb.tape.trans h.tape, hb.output.trans h.output⟩
theorem mark_appN {V w : World} {o : Oper} {ρ : Operand → Value} (s x : Operand) (ho : o.op = .call { callee := .builtin .append, args := #[s, x], argTypes := #[26, 26] }) {B g c0 : Nat} {d0 : Option Addr} {zs : List Int} {i : Int} (hs : ρ s = .slice d0 zs.length c0) (hx : ρ x = .slice (some ⟨g, 0, none⟩) 1 1) (hown : CapR B V d0 c0 zs) (hb : Below V.heap.size V w) (hc : w.cell? ⟨g, 0, none⟩ = some (.int .i64 i)) (hn : zs.length ≤ 1000000) (hB : B ≤ V.heap.size)
    {T : World → Value → Prop} (h : ∀ u d c, GrwN B V d0 (zs ++ [i]) u d c → T u (.slice d (zs.length + 1) c)) : markUpon Try.prog w T ((execOp ρ o).run Try.prog w) := by
  obtain ⟨i1, hi1, hy0, hy1, hy2⟩ := info_parts Try.info3
  have hown2 : CapR B w d0 c0 zs := hown.later hb
  obtain ⟨v', w', hr, h2, h3⟩ := run_append_told (P := Try.prog) w B 26 o.type 3 i1 (.int .i64 0) 1 8 Try.underlying26 hi1 hy0 hy1 hy2 rfl (by decide) (.slice d0 zs.length c0) zs.length _ hown2 ⟨g, 0, none⟩ 1 1 (by decide) [.int .i64 i] rfl (fun j u hu => by
    match j, hu with
    | 0, hu =>
      simp at hu
      subst hu
      simpa [Addr.add] using hc) (fun u hu => by simp at hu; subst hu; rfl) (by unfold maxLen; omega) (by omega) (Nat.le_trans hB hb.size)
  have h2' : w'.ownsRow B 3 1 v' (zs ++ [i]).length ((zs ++ [i]).map (Value.int .i64)) := by simpa using h2
  unfold execOp
  simp only [ho, resolve, invoke, builtin, Sem.run_bind, Sem.run_pure, Result.andThen_ok, List.map_toArray, List.map_cons, List.map_nil, hs, hx, hr]
  rcases h3 with ⟨g1, cap, e1, rfl, hg⟩ | ⟨cap, rfl, hg⟩
  · cases e1
    refine h w' _ _ ⟨by unfold CapR; simpa using h2', fun k hk hne => ?_, fun z hz => .inl hz, Nat.le_trans hb.size hg.size, hg.os.trans hb.os, hg.tape.trans hb.tape, hg.output.trans hb.output⟩
    exact (hg.block k (Nat.lt_of_lt_of_le hk hb.size) (fun e => by cases e; exact hne _ rfl rfl)).trans (hb.block k hk)
  · refine h w' _ _ ⟨by unfold CapR; simpa using h2', fun k hk hne => ?_, fun z hz => by cases hz; exact .inr hb.size, Nat.le_trans hb.size hg.size, hg.os.trans hb.os, hg.tape.trans hb.tape, hg.output.trans hb.output⟩
    exact (hg.block k (Nat.lt_of_lt_of_le hk hb.size) (fun e => by cases e)).trans (hb.block k hk)
/-- One row of a table has grown, the table's cell is set: what has become of the world. -/
structure FinN (B : Nat) (V : World) (H N tv : Nat) (D : Nat → Option Addr) (E : Nat → Nat) (Y : Nat → List Int) (R : List Int) (u : World) (d : Option Addr) (c : Nat) : Prop where
  tab : TabN B u H N (upd D tv d) (upd E tv c) (upd Y tv R)
  keep : ∀ k, k < V.heap.size → ¬ ofT N H D k → u.heap[k]? = V.heap[k]?
  new : ∀ z, d = some z → D tv = some z ∨ V.heap.size ≤ z.block
  size : V.heap.size ≤ u.heap.size
  os : u.os = V.os
  tape : u.tape = V.tape
  output : u.output = V.output
theorem FinN.later {B : Nat} {V u u' : World} {H N tv c : Nat} {D : Nat → Option Addr} {E : Nat → Nat} {Y : Nat → List Int} {R : List Int} {d : Option Addr} (h : FinN B V H N tv D E Y R u d c) (hb : Below u.heap.size u u') : FinN B V H N tv D E Y R u' d c :=
  ⟨h.tab.below hb, fun k hk hn => (hb.block k (Nat.lt_of_lt_of_le hk h.size)).trans (h.keep k hk hn), h.new, Nat.le_trans h.size hb.size, hb.os.trans h.os, hb.tape.trans h.tape, hb.output.trans h.output⟩
theorem TabN.mono {B B' : Nat} {w : World} {H N : Nat} {D : Nat → Option Addr} {E : Nat → Nat} {Y : Nat → List Int} (h : TabN B w H N D E Y) (hB : B' ≤ B) : TabN B' w H N D E Y := ⟨fun j hj => (h.own j hj).mono hB, h.long, h.dd, h.dt, Nat.le_trans hB h.low⟩
/-- The wiring's blocks. -/
def WbN (N : Nat) (aA : Option Addr) (H1 H2 : Nat) (D1 D2 : Nat → Option Addr) (k : Nat) : Prop := (∃ x, aA = some x ∧ x.block = k) ∨ ofT N H1 D1 k ∨ ofT N H2 D2 k
/-- A wiring, as it lies. -/
structure WrN (B : Nat) (w : World) (L : List NA) (N : Nat) (aA : Option Addr) (H1 H2 : Nat) (D1 D2 : Nat → Option Addr) (E1 E2 : Nat → Nat) : Prop where
  arcs : AtN w aA L
  sA : ∀ x, aA = some x → B ≤ x.block ∧ x.block < w.heap.size
  t1 : TabN B w H1 N D1 E1 (fun v => posU (toB (v : Int)) L L.length)
  t2 : TabN B w H2 N D2 E2 (fun v => posU (fromB (v : Int)) L L.length)
theorem WrN.lt {B : Nat} {w : World} {L : List NA} {N : Nat} {aA : Option Addr} {H1 H2 : Nat} {D1 D2 : Nat → Option Addr} {E1 E2 : Nat → Nat} (h : WrN B w L N aA H1 H2 D1 D2 E1 E2) {k : Nat} (hk : WbN N aA H1 H2 D1 D2 k) : B ≤ k ∧ k < w.heap.size := by
  rcases hk with ⟨x, hx, rfl⟩ | h1 | h1
  · exact h.sA x hx
  · exact h.t1.lt h1
  · exact h.t2.lt h1
theorem WrN.keep {B : Nat} {w w' : World} {L : List NA} {N : Nat} {aA : Option Addr} {H1 H2 : Nat} {D1 D2 : Nat → Option Addr} {E1 E2 : Nat → Nat} (h : WrN B w L N aA H1 H2 D1 D2 E1 E2) (hk : ∀ k, WbN N aA H1 H2 D1 D2 k → w'.heap[k]? = w.heap[k]?) (hs : w.heap.size ≤ w'.heap.size) : WrN B w' L N aA H1 H2 D1 D2 E1 E2 :=
  ⟨h.arcs.keep (fun x hx => hk _ (.inl ⟨x, hx, rfl⟩)), fun x hx => ⟨(h.sA x hx).1, Nat.lt_of_lt_of_le (h.sA x hx).2 hs⟩, h.t1.keep (fun _ hk' => hk _ (.inr (.inl hk'))), h.t2.keep (fun _ hk' => hk _ (.inr (.inr hk')))⟩
theorem WrN.below {B : Nat} {w w' : World} {L : List NA} {N : Nat} {aA : Option Addr} {H1 H2 : Nat} {D1 D2 : Nat → Option Addr} {E1 E2 : Nat → Nat} (h : WrN B w L N aA H1 H2 D1 D2 E1 E2) (hb : Below w.heap.size w w') : WrN B w' L N aA H1 H2 D1 D2 E1 E2 := h.keep (fun k hk => hb.block k (h.lt hk).2) hb.size
theorem WrN.mono {B B' : Nat} {w : World} {L : List NA} {N : Nat} {aA : Option Addr} {H1 H2 : Nat} {D1 D2 : Nat → Option Addr} {E1 E2 : Nat → Nat} (h : WrN B w L N aA H1 H2 D1 D2 E1 E2) (hB : B' ≤ B) : WrN B' w L N aA H1 H2 D1 D2 E1 E2 := ⟨h.arcs, fun x hx => ⟨Nat.le_trans hB (h.sA x hx).1, (h.sA x hx).2⟩, h.t1.mono hB, h.t2.mono hB⟩
structure GhN where
  aA : Option Addr
  cA : Nat
  H1 : Nat
  H2 : Nat
  D1 : Nat → Option Addr
  D2 : Nat → Option Addr
  E1 : Nat → Nat
  E2 : Nat → Nat
  gF : Nat
structure CN (V : World) (L : List NA) (N : Nat) (y : GhN) (d : Nat → Bool) (u : World) : Prop where
  bel : Below V.heap.size V u
  wr : d 1 = true → WrN V.heap.size u L N y.aA y.H1 y.H2 y.D1 y.D2 y.E1 y.E2
  fi : d 4 = true → CapR V.heap.size u (some ⟨y.gF, 0, none⟩) N (List.replicate N 0)
  dis : d 1 = true → d 4 = true → ∀ k, WbN N y.aA y.H1 y.H2 y.D1 y.D2 k → k ≠ y.gF
theorem CN.later {V u u' : World} {L : List NA} {N : Nat} {y : GhN} {d : Nat → Bool} (h : CN V L N y d u) (hb : Below u.heap.size u u') : CN V L N y d u' :=
  ⟨h.bel.trans (hb.mono h.bel.size), fun e => (h.wr e).below hb, fun e => (h.fi e).later hb, h.dis⟩
theorem CN.m1 {V u u' : World} {L : List NA} {N : Nat} {y : GhN} {d : Nat → Bool} {aA : Option Addr} {cA H1 H2 : Nat} {D1 D2 : Nat → Option Addr} {E1 E2 : Nat → Nat} (h : CN V L N y d u) (hw : WrN u.heap.size u' L N aA H1 H2 D1 D2 E1 E2) (hb : Below u.heap.size u u') : CN V L N ⟨aA, cA, H1, H2, D1, D2, E1, E2, y.gF⟩ (doneAt d 1) u' := by
  have g := h.later hb
  have e4 : doneAt d 1 4 = d 4 := doneAt_ne d (by decide)
  refine ⟨g.bel, fun _ => hw.mono h.bel.size, fun e => g.fi (by rw [← e4]; exact e), fun _ e k hk => ?_⟩
  rw [e4] at e
  have h1 := (hw.lt hk).1
  have h2 := ((h.fi e).lt _ rfl).2
  intro hh
  simp only at h2 hh
  omega
theorem made_ownN (w : World) (N : Nat) (hN : N ≤ 1000) {B : Nat} (hB : B ≤ w.heap.size) : CapR B (w.alloc (.cells (madeCells #[.int .i64 0] N) 3)) (some ⟨w.heap.size, 0, none⟩) N (List.replicate N 0) := by
  have hm : (w.alloc (.cells (madeCells #[.int .i64 0] N) 3)).heap[w.heap.size]? = some (.cells (madeCells #[.int .i64 0] N) 3 (0, 0)) := by show (w.heap.push _)[w.heap.size]? = _; simp
  unfold CapR
  rw [List.length_replicate]
  refine ⟨by simp, .inr ⟨w.heap.size, N, _, rfl, hB, hm, Nat.le_refl _, by unfold maxLen; omega, by simp [madeCells], ?_⟩⟩
  apply List.ext_getElem?
  intro k
  rw [Nat.mul_one]
  by_cases hk : k < N <;> simp [madeCells, hk, Nat.mod_one]
theorem CN.m4 {V u : World} {L : List NA} {N : Nat} {y : GhN} {d : Nat → Bool} (h : CN V L N y d u) (hN : N ≤ 1000) : CN V L N ⟨y.aA, y.cA, y.H1, y.H2, y.D1, y.D2, y.E1, y.E2, u.heap.size⟩ (doneAt d 4) (u.alloc (.cells (madeCells #[.int .i64 0] N) 3)) := by
  have hb : Below u.heap.size u (u.alloc (.cells (madeCells #[.int .i64 0] N) 3)) := (Below.refl _ _).alloc (Nat.le_refl _) _
  have g := h.later hb
  have e1 : doneAt d 4 1 = d 1 := doneAt_ne d (by decide)
  refine ⟨g.bel, fun e => g.wr (by rw [← e1]; exact e), fun _ => made_ownN u N hN h.bel.size, fun e _ k hk => ?_⟩
  rw [e1] at e
  have h1 := ((h.wr e).lt hk).2
  show k ≠ u.heap.size
  omega
theorem drewB {B : Nat} {a w : World} (h : Below B a w) (n : Nat) : Below B a (w.drewN n) := h.trans ⟨rfl, rfl, rfl, Nat.le_refl _, fun _ _ => rfl⟩
end Go.Proofs.Ytecmkienoofccab
