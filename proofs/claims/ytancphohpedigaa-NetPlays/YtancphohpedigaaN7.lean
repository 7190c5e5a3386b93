/- The walk of net.wired. (Written by tmpl/mkN7.py.) -/
import Derived.Test.YtancphohpedigaaN6
namespace Go.Proofs.Ytancphohpedigaa
open Go.ChangeShapes Go.WideShapes Go.ChangeAt Go.RowKit

/-- How things lie while the tables are filled. -/
structure LW (B : Nat) (V0 wr : World) (L : List NA) (N : Nat) (P H1 H2 cA : Nat) (aA : Option Addr) (D1 D2 : Nat → Option Addr) (E1 E2 : Nat → Nat) (Y1 Y2 : Nat → List Int) : Prop where
  t1 : TabN B wr H1 N D1 E1 Y1
  t2 : TabN B wr H2 N D2 E2 Y2
  sep : ∀ k, ofT N H1 D1 k → ¬ ofT N H2 D2 k
  p1 : ∀ k, ofT N H1 D1 k → k ≠ P ∧ ∀ x, aA = some x → x.block ≠ k
  p2 : ∀ k, ofT N H2 D2 k → k ≠ P ∧ ∀ x, aA = some x → x.block ≠ k
  arcs : AtN wr aA L
  low : ∀ x, aA = some x → B ≤ x.block ∧ x.block < wr.heap.size
  blk : BlkA 69 P wr #[.slice aA L.length cA, .slice (some ⟨H1, 0, none⟩) N N, .slice (some ⟨H2, 0, none⟩) N N]
  bel : Below B V0 wr
theorem LW.later {B : Nat} {V0 wr w' : World} {L : List NA} {N : Nat} {P H1 H2 cA : Nat} {aA : Option Addr} {D1 D2 : Nat → Option Addr} {E1 E2 : Nat → Nat} {Y1 Y2 : Nat → List Int} (h : LW B V0 wr L N P H1 H2 cA aA D1 D2 E1 E2 Y1 Y2) (hb : Below wr.heap.size wr w') (hB : B ≤ wr.heap.size) : LW B V0 w' L N P H1 H2 cA aA D1 D2 E1 E2 Y1 Y2 :=
  ⟨h.t1.below hb, h.t2.below hb, h.sep, h.p1, h.p2, h.arcs.below hb, fun x hx => ⟨(h.low x hx).1, Nat.lt_of_lt_of_le (h.low x hx).2 hb.size⟩, h.blk.below hb, h.bel.trans (hb.mono hB)⟩
/-- One row of a table has grown, the table's cell is set: what has become of the world. -/
structure FinN (B : Nat) (V : World) (H N tv : Nat) (D : Nat → Option Addr) (E : Nat → Nat) (Y : Nat → List Int) (R : List Int) (u : World) (d : Option Addr) (c : Nat) : Prop where
  tab : TabN B u H N (upd D tv d) (upd E tv c) (upd Y tv R)
  keep : ∀ k, k < V.heap.size → ¬ ofT N H D k → u.heap[k]? = V.heap[k]?
  new : ∀ z, d = some z → D tv = some z ∨ V.heap.size ≤ z.block
  size : V.heap.size ≤ u.heap.size
  os : u.os = V.os
  tape : u.tape = V.tape
  output : u.output = V.output

theorem LW.step1 {B : Nat} {V0 V u : World} {L : List NA} {N : Nat} {P H1 H2 cA tv c : Nat} {aA d : Option Addr} {D1 D2 : Nat → Option Addr} {E1 E2 : Nat → Nat} {Y1 Y2 : Nat → List Int} {R : List Int} (h : LW B V0 V L N P H1 H2 cA aA D1 D2 E1 E2 Y1 Y2) (hB : B ≤ V.heap.size) (htv : tv < N) (f : FinN B V H1 N tv D1 E1 Y1 R u d c) : LW B V0 u L N P H1 H2 cA aA (upd D1 tv d) D2 (upd E1 tv c) E2 (upd Y1 tv R) Y2 := by
  have in1 : ∀ k, ofT N H1 (upd D1 tv d) k → ofT N H1 D1 k ∨ V.heap.size ≤ k := fun k hk => by
    rcases ofT_put hk with h1 | ⟨z, hz, rfl⟩
    · exact .inl h1
    · rcases f.new z hz with h2 | h2
      · exact .inl (.inr ⟨tv, z, htv, h2, rfl⟩)
      · exact .inr h2
  have k2 : ∀ k, ofT N H2 D2 k → u.heap[k]? = V.heap[k]? := fun k hk => f.keep k (h.t2.lt hk).2 (fun e => h.sep k e hk)
  refine ⟨f.tab, h.t2.keep k2, fun k hk hk' => ?_, fun k hk => ?_, h.p2, h.arcs.keep (fun x hx => f.keep _ (h.low x hx).2 (fun e => (h.p1 _ e).2 x hx rfl)), fun x hx => ⟨(h.low x hx).1, Nat.lt_of_lt_of_le (h.low x hx).2 f.size⟩, h.blk.keep (f.keep _ h.blk.lt (fun e => (h.p1 _ e).1 rfl)), ⟨f.os.trans h.bel.os, f.tape.trans h.bel.tape, f.output.trans h.bel.output, Nat.le_trans h.bel.size f.size, fun k hk => (f.keep k (Nat.lt_of_lt_of_le hk hB) (fun e => by have := (h.t1.lt e).1; omega)).trans (h.bel.block k hk)⟩⟩
  · rcases in1 k hk with h1 | h1
    · exact h.sep k h1 hk'
    · have := (h.t2.lt hk').2; omega
  · rcases in1 k hk with h1 | h1
    · exact h.p1 k h1
    · exact ⟨by have := h.blk.lt; omega, fun x hx => by have := (h.low x hx).2; omega⟩

theorem LW.step2 {B : Nat} {V0 V u : World} {L : List NA} {N : Nat} {P H1 H2 cA tv c : Nat} {aA d : Option Addr} {D1 D2 : Nat → Option Addr} {E1 E2 : Nat → Nat} {Y1 Y2 : Nat → List Int} {R : List Int} (h : LW B V0 V L N P H1 H2 cA aA D1 D2 E1 E2 Y1 Y2) (hB : B ≤ V.heap.size) (htv : tv < N) (f : FinN B V H2 N tv D2 E2 Y2 R u d c) : LW B V0 u L N P H1 H2 cA aA D1 (upd D2 tv d) E1 (upd E2 tv c) Y1 (upd Y2 tv R) := by
  have in2 : ∀ k, ofT N H2 (upd D2 tv d) k → ofT N H2 D2 k ∨ V.heap.size ≤ k := fun k hk => by
    rcases ofT_put hk with h1 | ⟨z, hz, rfl⟩
    · exact .inl h1
    · rcases f.new z hz with h2 | h2
      · exact .inl (.inr ⟨tv, z, htv, h2, rfl⟩)
      · exact .inr h2
  have k2 : ∀ k, ofT N H1 D1 k → u.heap[k]? = V.heap[k]? := fun k hk => f.keep k (h.t1.lt hk).2 (fun e => h.sep k hk e)
  refine ⟨h.t1.keep k2, f.tab, fun k hk hk' => ?_, h.p1, fun k hk => ?_, h.arcs.keep (fun x hx => f.keep _ (h.low x hx).2 (fun e => (h.p2 _ e).2 x hx rfl)), fun x hx => ⟨(h.low x hx).1, Nat.lt_of_lt_of_le (h.low x hx).2 f.size⟩, h.blk.keep (f.keep _ h.blk.lt (fun e => (h.p2 _ e).1 rfl)), ⟨f.os.trans h.bel.os, f.tape.trans h.bel.tape, f.output.trans h.bel.output, Nat.le_trans h.bel.size f.size, fun k hk => (f.keep k (Nat.lt_of_lt_of_le hk hB) (fun e => by have := (h.t2.lt e).1; omega)).trans (h.bel.block k hk)⟩⟩
  · rcases in2 k hk' with h1 | h1
    · exact h.sep k hk h1
    · have := (h.t1.lt hk).2; omega
  · rcases in2 k hk with h1 | h1
    · exact h.p2 k h1
    · exact ⟨by have := h.blk.lt; omega, fun x hx => by have := (h.low x hx).2; omega⟩

theorem finN_of {B : Nat} {V u : World} {H N tv c : Nat} {D : Nat → Option Addr} {E : Nat → Nat} {Y : Nat → List Int} {R : List Int} {d : Option Addr} (h : TabN B V H N D E Y) (hi : tv < N) (g : GrwN B V (D tv) R u d c) : FinN B V H N tv D E Y R (u.setCell ⟨H, tv, none⟩ (.slice d R.length c)) d c := by
  refine ⟨h.put hi g.own g.keep g.new, fun k hk hn => ?_, g.new, by rw [World.size_setCell]; exact g.size, g.os, g.tape, g.output⟩
  have k1 : k ≠ H := fun e => hn (.inl e)
  rw [Below.heap_setCell u ⟨H, tv, none⟩ _ k k1]
  exact g.keep k hk (fun y hy e => hn (.inr ⟨tv, y, hi, hy, e⟩))
theorem toB_step {A : List NA} {q tv : Nat} (h : (nthNa A q).t = (tv : Int)) : upd (fun v : Nat => posU (toB (v : Int)) A q) tv (posU (toB (tv : Int)) A q ++ [(q : Int)]) = fun v : Nat => posU (toB (v : Int)) A (q + 1) := by
  funext v
  by_cases e : v = tv
  · subst e; rw [upd_eq, posU_yes (by unfold toB; exact decide_eq_true h)]
  · rw [upd_ne e, posU_no (by unfold toB; exact decide_eq_false (by rw [h]; omega))]
theorem fromB_step {A : List NA} {q tv : Nat} (h : (nthNa A q).f = (tv : Int)) : upd (fun v : Nat => posU (fromB (v : Int)) A q) tv (posU (fromB (tv : Int)) A q ++ [(q : Int)]) = fun v : Nat => posU (fromB (v : Int)) A (q + 1) := by
  funext v
  by_cases e : v = tv
  · subst e; rw [upd_eq, posU_yes (by unfold fromB; exact decide_eq_true h)]
  · rw [upd_ne e, posU_no (by unfold fromB; exact decide_eq_false (by rw [h]; omega))]
theorem FinN.later {B : Nat} {V u u' : World} {H N tv c : Nat} {D : Nat → Option Addr} {E : Nat → Nat} {Y : Nat → List Int} {R : List Int} {d : Option Addr} (h : FinN B V H N tv D E Y R u d c) (hb : Below u.heap.size u u') : FinN B V H N tv D E Y R u' d c :=
  ⟨h.tab.below hb, fun k hk hn => (hb.block k (Nat.lt_of_lt_of_le hk h.size)).trans (h.keep k hk hn), h.new, Nat.le_trans h.size hb.size, hb.os.trans h.os, hb.tape.trans h.tape, hb.output.trans h.output⟩
def WiredE (n : NN) (w : World) (e : Ending) (w' : World) : Prop := ∃ (aA : Option Addr) (cA H1 H2 : Nat) (D1 D2 : Nat → Option Addr) (E1 E2 : Nat → Nat), e = .returned (.agg #[.slice aA n.arcs.length cA, .slice (some ⟨H1, 0, none⟩) n.nodes.toNat n.nodes.toNat, .slice (some ⟨H2, 0, none⟩) n.nodes.toNat n.nodes.toNat]) ∧ AtN w' aA n.arcs ∧ (∀ x, aA = some x → w.heap.size ≤ x.block ∧ x.block < w'.heap.size) ∧ TabN w.heap.size w' H1 n.nodes.toNat D1 E1 (fun v => inArcsN n v) ∧ TabN w.heap.size w' H2 n.nodes.toNat D2 E2 (fun v => outArcsN n v) ∧ Below w.heap.size w w'
theorem TabN.mono {B B' : Nat} {w : World} {H N : Nat} {D : Nat → Option Addr} {E : Nat → Nat} {Y : Nat → List Int} (h : TabN B w H N D E Y) (hB : B' ≤ B) : TabN B' w H N D E Y := ⟨fun j hj => (h.own j hj).mono hB, h.long, h.dd, h.dt, Nat.le_trans hB h.low⟩

set_option maxRecDepth 100000 in
set_option maxHeartbeats 16000000 in
theorem wired_any (n : NN) (a : Option Addr) (c : Nat) (w : World) (hS : SoundN n) (h : AtN w a n.arcs) (hna : a = none → n.arcs.length = 0 ∧ c = 0) : Calls Try.prog 31 #[.agg #[.int .i64 n.nodes, .slice a n.arcs.length c]] w (WiredE n w) := by
  have hnn := nodes_nat hS
  obtain ⟨WE, hWE⟩ : ∃ R, WiredE n w = R := ⟨_, rfl⟩
  rw [hWE]
  have HWE := hiddenN hWE
  clear hWE
  obtain ⟨m, L⟩ := n
  simp only at *
  obtain ⟨N, hN⟩ : ∃ N, m.toNat = N := ⟨_, rfl⟩
  rw [hN] at hnn
  obtain ⟨rfl⟩ : m = (N : Int) := hnn.1.symm
  have hmost := hS.most
  have HSA := hiddenN hS.arcs
  simp only at hmost HSA
  obtain ⟨len, hlen⟩ : ∃ q, L.length = q := ⟨_, rfl⟩
  rw [hlen] at hmost hna HSA ⊢
  have HL : Hid (L.length = len) := hlen
  have b0 := (Below.refl w.heap.size w).alloc (Nat.le_refl _) (.cells #[.int .i64 (N : Int), .slice a len c] 24)
  have b1 := b0.alloc b0.size (.cells #[.slice none 0 0, .slice none 0 0, .slice none 0 0] 69)
  have g0 := (blkA_new 24 w #[.int .i64 (N : Int), .slice a len c]).below ((Below.refl _ _).alloc (Nat.le_refl _) (.cells #[.slice none 0 0, .slice none 0 0, .slice none 0 0] 69))
  have G1 := hiddenN (blkA_new 69 (w.alloc (.cells #[.int .i64 (N : Int), .slice a len c] 24)) #[.slice none 0 0, .slice none 0 0, .slice none 0 0])
  have y0 := g0.cell (k := 0) rfl
  have y1 := g0.cell (k := 1) rfl
  simp only [List.getElem_toArray, List.getElem_cons_zero, List.getElem_cons_succ] at y0 y1
  have B1 := hiddenN b1
  have HA := hiddenN h
  have HM := hiddenN (run_make_row' (P := Try.prog) 57 45 (.slice none 0 0) 24 Try.underlying57 Try.infoSN rfl .i64 .i64 N (by omega) (by omega))
  have hsz : (w.alloc (.cells #[.int .i64 (N : Int), .slice a len c] 24)).heap.size = w.heap.size + 1 := World.size_alloc _ _
  rw [hsz] at G1
  have G0 := hiddenN g0
  clear b0 b1 g0 h
  go_enter Try.func31, Try.ntmps31
  go_upto_region 1 with fail
  generalize (w.alloc (.cells #[.int .i64 (N : Int), .slice a len c] 24)).alloc (.cells #[.slice none 0 0, .slice none 0 0, .slice none 0 0] 69) = V0 at *
  have CL : Hid (∀ U, Below V0.heap.size V0 U → Calls Try.prog 44 #[.slice a len c] U (ArcsEnd U L)) := fun U hb => cloneA_any a L len c U HL.out hmost hna (HA.out.below (B1.out.trans (hb.mono B1.out.size)))

  refine wp_region_gho [2, 5, 8, 10, 11] (fun y d i u z => match i with
      | 0 => z = .pointer (some ⟨w.heap.size, 1, none⟩)
      | 1 => z = .slice a len c
      | 2 => (d 2 = true ∧ z = .slice y.a len y.c)
      | 3 => z = .pointer (some ⟨w.heap.size, 0, none⟩)
      | 4 => z = .int .i64 (N : Int)
      | 5 => (d 5 = true ∧ z = .slice (some ⟨y.F 5, 0, none⟩) N N)
      | 6 => z = .pointer (some ⟨w.heap.size, 0, none⟩)
      | 7 => z = .int .i64 (N : Int)
      | 8 => (d 8 = true ∧ z = .slice (some ⟨y.F 8, 0, none⟩) N N)
      | 9 => ((d 2 = true ∧ d 5 = true ∧ d 8 = true) ∧ z = .agg #[.slice y.a len y.c, .slice (some ⟨y.F 5, 0, none⟩) N N, .slice (some ⟨y.F 8, 0, none⟩) N N])
      | 10 => (d 10 = true ∧ z = .pointer (some ⟨y.F 10, 0, none⟩))
      | 11 => True
      | _ => True) (fun y d u => CW V0 L N y d u) (⟨none, 0, fun _ => 0⟩) (by kernel_rfl) (by kernel_rfl) (by kernel_rfl) ?_ ?_ ?_ ?_ ?_ ?_ (by kernel_rfl)
  · intro y d i w v w' h hb
    match i, h with
    | 0, h => exact h
    | 1, h => exact h
    | 2, h => exact h
    | 3, h => exact h
    | 4, h => exact h
    | 5, h => exact h
    | 6, h => exact h
    | 7, h => exact h
    | 8, h => exact h
    | 9, h => exact h
    | 10, h => exact h
    | 11, h => exact h
    | _ + 12, _ => trivial
  · intro y d u u' h hb
    exact CW.later h hb
  · exact CW.start _ _ _ _
  · intro y d i o ρ w' hm ho hf hg hC hcs hfs hfr hdep
    match i, hm, ho, hf, hg, hfr, hdep with
    | 0, _, ho, hf, hg, hfr, hdep =>
      simp only [List.getElem?_toArray, List.getElem?_cons_zero, Option.some.injEq] at ho
      subst ho
      refine ⟨fun _ => ?_, fun hw => absurd (show true = false from hw) (by decide)⟩
      have ts : ρ (.tmp 1) = .pointer (some ⟨w.heap.size, 0, none⟩) := hfr 1 (by kernel_rfl)
      simp [go_sem, ts]
      exact ⟨Below.refl _ _, rfl⟩
    | 1, _, ho, hf, hg, hfr, hdep =>
      simp only [List.getElem?_toArray, List.getElem?_cons_zero, List.getElem?_cons_succ, Option.some.injEq] at ho
      subst ho
      refine ⟨fun _ => ?_, fun hw => absurd (show true = false from hw) (by decide)⟩
      have cc : w'.cell? ⟨w.heap.size, 1, none⟩ = some (.slice a len c) := cellN_later hC.bel y1
      have d0 : ρ (.tmp 6) = .pointer (some ⟨w.heap.size, 1, none⟩) := hdep 0 6 (by kernel_rfl) (by kernel_rfl)
      simp [go_sem, d0, cc]
      exact ⟨Below.refl _ _, rfl⟩
    | 2, hm, _, _, _, _, _ => exact absurd hm (by decide)
    | 3, _, ho, hf, hg, hfr, hdep =>
      simp only [List.getElem?_toArray, List.getElem?_cons_zero, List.getElem?_cons_succ, Option.some.injEq] at ho
      subst ho
      refine ⟨fun _ => ?_, fun hw => absurd (show true = false from hw) (by decide)⟩
      have ts : ρ (.tmp 1) = .pointer (some ⟨w.heap.size, 0, none⟩) := hfr 1 (by kernel_rfl)
      simp [go_sem, ts]
      exact ⟨Below.refl _ _, rfl⟩
    | 4, _, ho, hf, hg, hfr, hdep =>
      simp only [List.getElem?_toArray, List.getElem?_cons_zero, List.getElem?_cons_succ, Option.some.injEq] at ho
      subst ho
      refine ⟨fun _ => ?_, fun hw => absurd (show true = false from hw) (by decide)⟩
      have cc : w'.cell? ⟨w.heap.size, 0, none⟩ = some (.int .i64 (N : Int)) := cellN_later hC.bel y0
      have d0 : ρ (.tmp 9) = .pointer (some ⟨w.heap.size, 0, none⟩) := hdep 3 9 (by kernel_rfl) (by kernel_rfl)
      simp [go_sem, d0, cc]
      exact ⟨Below.refl _ _, rfl⟩
    | 5, hm, _, _, _, _, _ => exact absurd hm (by decide)
    | 6, _, ho, hf, hg, hfr, hdep =>
      simp only [List.getElem?_toArray, List.getElem?_cons_zero, List.getElem?_cons_succ, Option.some.injEq] at ho
      subst ho
      refine ⟨fun _ => ?_, fun hw => absurd (show true = false from hw) (by decide)⟩
      have ts : ρ (.tmp 1) = .pointer (some ⟨w.heap.size, 0, none⟩) := hfr 1 (by kernel_rfl)
      simp [go_sem, ts]
      exact ⟨Below.refl _ _, rfl⟩
    | 7, _, ho, hf, hg, hfr, hdep =>
      simp only [List.getElem?_toArray, List.getElem?_cons_zero, List.getElem?_cons_succ, Option.some.injEq] at ho
      subst ho
      refine ⟨fun _ => ?_, fun hw => absurd (show true = false from hw) (by decide)⟩
      have cc : w'.cell? ⟨w.heap.size, 0, none⟩ = some (.int .i64 (N : Int)) := cellN_later hC.bel y0
      have d0 : ρ (.tmp 12) = .pointer (some ⟨w.heap.size, 0, none⟩) := hdep 6 12 (by kernel_rfl) (by kernel_rfl)
      simp [go_sem, d0, cc]
      exact ⟨Below.refl _ _, rfl⟩
    | 8, hm, _, _, _, _, _ => exact absurd hm (by decide)
    | 9, _, ho, hf, hg, hfr, hdep =>
      simp only [List.getElem?_toArray, List.getElem?_cons_zero, List.getElem?_cons_succ, Option.some.injEq] at ho
      subst ho
      refine ⟨fun _ => ?_, fun hw => absurd (show true = false from hw) (by decide)⟩
      have t2 : d 2 = true ∧ ρ (.tmp 8) = .slice y.a len y.c := hdep 2 8 (by kernel_rfl) (by kernel_rfl)
      have t5 : d 5 = true ∧ ρ (.tmp 11) = .slice (some ⟨y.F 5, 0, none⟩) N N := hdep 5 11 (by kernel_rfl) (by kernel_rfl)
      have t8 : d 8 = true ∧ ρ (.tmp 14) = .slice (some ⟨y.F 8, 0, none⟩) N N := hdep 8 14 (by kernel_rfl) (by kernel_rfl)
      obtain ⟨q2, t2⟩ := t2
      obtain ⟨q5, t5⟩ := t5
      obtain ⟨q8, t8⟩ := t8
      simp [go_sem, t2, t5, t8]
      exact ⟨Below.refl _ _, ⟨q2, q5, q8⟩, rfl⟩
    | 10, hm, _, _, _, _, _ => exact absurd hm (by decide)
    | 11, hm, _, _, _, _, _ => exact absurd hm (by decide)
    | n + 12, _, ho, _, _, _, _ => simp at ho
  · intro y d i o ρ w' hm ho h0 hf hg hC hcs hfs hfr hdep
    match i, hm, ho, h0, hf, hg, hfr, hdep with
    | 0, hm, _, _, _, _, _, _ => exact absurd hm (by decide)
    | 1, hm, _, _, _, _, _, _ => exact absurd hm (by decide)
    | 2, _, ho, h0, hf, hg, hfr, hdep =>
      simp only [List.getElem?_toArray, List.getElem?_cons_zero, List.getElem?_cons_succ, Option.some.injEq] at ho
      subst ho
      have t0 : ρ (.tmp 7) = .slice a len c := hdep 1 7 (by kernel_rfl) (by kernel_rfl)
      have h11 : d 11 = false := hf 11 (by decide) (by kernel_rfl)
      have CLw := CL.out w' hC.bel
      refine ⟨rfl, ?_⟩
      simp [go_sem, markUpon, t0, hfs]
      refine CLw.mono ?_
      rintro e w'' ⟨a', c', rfl, q1, q2, q3⟩
      rw [HL.out]
      refine ⟨_, rfl, ⟨a', c', y.F⟩, hC.m2 h11 q1 q2 q3, ⟨doneAt_eq _ _, rfl⟩, ?_⟩
      intro j t hj hs
      match j, hs with
      | 0, hs => exact hs
      | 1, hs => exact hs
      | 2, hs => exact absurd hs.1 (by rw [h0]; decide)
      | 3, hs => exact hs
      | 4, hs => exact hs
      | 5, hs => exact hs
      | 6, hs => exact hs
      | 7, hs => exact hs
      | 8, hs => exact hs
      | 9, hs => exact absurd hs.1.1 (by rw [h0]; decide)
      | 10, hs => exact hs
      | 11, _ => trivial
      | _ + 12, _ => trivial
    | 3, hm, _, _, _, _, _, _ => exact absurd hm (by decide)
    | 4, hm, _, _, _, _, _, _ => exact absurd hm (by decide)
    | 5, _, ho, h0, hf, hg, hfr, hdep =>
      simp only [List.getElem?_toArray, List.getElem?_cons_zero, List.getElem?_cons_succ, Option.some.injEq] at ho
      subst ho
      have t0 : ρ (.tmp 10) = .int .i64 (N : Int) := hdep 4 10 (by kernel_rfl) (by kernel_rfl)
      have h11 : d 11 = false := hf 11 (by decide) (by kernel_rfl)
      refine ⟨rfl, ?_⟩
      simp [go_sem, markUpon, t0, HM.out]
      refine ⟨⟨y.a, y.c, upd y.F 5 w'.heap.size⟩, CW.made 5 _ (by unfold is3; decide) hC h0 h11 (fun _ => World.rowIs_made w' (.slice none 0 0) N 45) (fun _ => World.rowIs_made w' (.slice none 0 0) N 45) (fun e => absurd e (by decide)), ⟨doneAt_eq _ _, by simp only [upd_eq]⟩, ?_⟩
      intro j t hj hs
      match j, hs with
      | 0, hs => exact hs
      | 1, hs => exact hs
      | 2, hs => exact ⟨(doneAt_ne d (by decide)).trans hs.1, hs.2⟩
      | 3, hs => exact hs
      | 4, hs => exact hs
      | 5, hs => exact absurd hs.1 (by rw [h0]; decide)
      | 6, hs => exact hs
      | 7, hs => exact hs
      | 8, hs => exact ⟨(doneAt_ne d (by decide)).trans hs.1, by simp only [upd_ne (show (8 : Nat) ≠ 5 by decide)]; exact hs.2⟩
      | 9, hs => exact absurd hs.1.2.1 (by rw [h0]; decide)
      | 10, hs => exact ⟨(doneAt_ne d (by decide)).trans hs.1, by simp only [upd_ne (show (10 : Nat) ≠ 5 by decide)]; exact hs.2⟩
      | 11, _ => trivial
      | _ + 12, _ => trivial
    | 6, hm, _, _, _, _, _, _ => exact absurd hm (by decide)
    | 7, hm, _, _, _, _, _, _ => exact absurd hm (by decide)
    | 8, _, ho, h0, hf, hg, hfr, hdep =>
      simp only [List.getElem?_toArray, List.getElem?_cons_zero, List.getElem?_cons_succ, Option.some.injEq] at ho
      subst ho
      have t0 : ρ (.tmp 13) = .int .i64 (N : Int) := hdep 7 13 (by kernel_rfl) (by kernel_rfl)
      have h11 : d 11 = false := hf 11 (by decide) (by kernel_rfl)
      refine ⟨rfl, ?_⟩
      simp [go_sem, markUpon, t0, HM.out]
      refine ⟨⟨y.a, y.c, upd y.F 8 w'.heap.size⟩, CW.made 8 _ (by unfold is3; decide) hC h0 h11 (fun _ => World.rowIs_made w' (.slice none 0 0) N 45) (fun _ => World.rowIs_made w' (.slice none 0 0) N 45) (fun e => absurd e (by decide)), ⟨doneAt_eq _ _, by simp only [upd_eq]⟩, ?_⟩
      intro j t hj hs
      match j, hs with
      | 0, hs => exact hs
      | 1, hs => exact hs
      | 2, hs => exact ⟨(doneAt_ne d (by decide)).trans hs.1, hs.2⟩
      | 3, hs => exact hs
      | 4, hs => exact hs
      | 5, hs => exact ⟨(doneAt_ne d (by decide)).trans hs.1, by simp only [upd_ne (show (5 : Nat) ≠ 8 by decide)]; exact hs.2⟩
      | 6, hs => exact hs
      | 7, hs => exact hs
      | 8, hs => exact absurd hs.1 (by rw [h0]; decide)
      | 9, hs => exact absurd hs.1.2.2 (by rw [h0]; decide)
      | 10, hs => exact ⟨(doneAt_ne d (by decide)).trans hs.1, by simp only [upd_ne (show (10 : Nat) ≠ 8 by decide)]; exact hs.2⟩
      | 11, _ => trivial
      | _ + 12, _ => trivial
    | 9, hm, _, _, _, _, _, _ => exact absurd hm (by decide)
    | 10, _, ho, h0, hf, hg, hfr, hdep =>
      simp only [List.getElem?_toArray, List.getElem?_cons_zero, List.getElem?_cons_succ, Option.some.injEq] at ho
      subst ho
      have h11 : d 11 = false := hf 11 (by decide) (by kernel_rfl)
      refine ⟨rfl, ?_⟩
      simp [go_sem, markUpon]
      refine ⟨⟨y.a, y.c, upd y.F 10 w'.heap.size⟩, CW.made 10 _ (by unfold is3; decide) hC h0 h11 (fun e => absurd e (by decide)) (fun e => absurd e (by decide)) (fun _ => blkA_new 69 w' _), ⟨doneAt_eq _ _, by simp only [upd_eq]⟩, ?_⟩
      intro j t hj hs
      match j, hs with
      | 0, hs => exact hs
      | 1, hs => exact hs
      | 2, hs => exact ⟨(doneAt_ne d (by decide)).trans hs.1, hs.2⟩
      | 3, hs => exact hs
      | 4, hs => exact hs
      | 5, hs => exact ⟨(doneAt_ne d (by decide)).trans hs.1, by simp only [upd_ne (show (5 : Nat) ≠ 10 by decide)]; exact hs.2⟩
      | 6, hs => exact hs
      | 7, hs => exact hs
      | 8, hs => exact ⟨(doneAt_ne d (by decide)).trans hs.1, by simp only [upd_ne (show (8 : Nat) ≠ 10 by decide)]; exact hs.2⟩
      | 9, hs => exact ⟨⟨(doneAt_ne d (by decide)).trans hs.1.1, (doneAt_ne d (by decide)).trans hs.1.2.1, (doneAt_ne d (by decide)).trans hs.1.2.2⟩, by simp only [upd_ne (show (5 : Nat) ≠ 10 by decide), upd_ne (show (8 : Nat) ≠ 10 by decide)]; exact hs.2⟩
      | 10, hs => exact absurd hs.1 (by rw [h0]; decide)
      | 11, _ => trivial
      | _ + 12, _ => trivial
    | 11, _, ho, h0, hf, hg, hfr, hdep =>
      simp only [List.getElem?_toArray, List.getElem?_cons_zero, List.getElem?_cons_succ, Option.some.injEq] at ho
      subst ho
      have t10 : d 10 = true ∧ ρ (.tmp 3) = .pointer (some ⟨y.F 10, 0, none⟩) := hdep 10 3 (by kernel_rfl) (by kernel_rfl)
      have t9 : (d 2 = true ∧ d 5 = true ∧ d 8 = true) ∧ ρ (.tmp 15) = .agg #[.slice y.a len y.c, .slice (some ⟨y.F 5, 0, none⟩) N N, .slice (some ⟨y.F 8, 0, none⟩) N N] := hdep 9 15 (by kernel_rfl) (by kernel_rfl)
      have hbk := hC.t10 t10.1
      rw [h0, if_neg (by decide)] at hbk
      refine ⟨rfl, mark_storeN 69 (.tmp 3) (.tmp 15) rfl (y.F 10) 69 _ _ t10.2 t9.2 hbk sizWir rfl rfl ?_⟩
      intro w'' hs1 hb1
      refine ⟨y, hC.m11 t9.1.1 t9.1.2.1 t9.1.2.2 t10.1 hb1 (by rw [HL.out]; exact hs1), fun h => absurd rfl h, ?_⟩
      intro j t hj hs
      match j, hs with
      | 0, hs => exact hs
      | 1, hs => exact hs
      | 2, hs => exact ⟨(doneAt_ne d (by decide)).trans hs.1, hs.2⟩
      | 3, hs => exact hs
      | 4, hs => exact hs
      | 5, hs => exact ⟨(doneAt_ne d (by decide)).trans hs.1, hs.2⟩
      | 6, hs => exact hs
      | 7, hs => exact hs
      | 8, hs => exact ⟨(doneAt_ne d (by decide)).trans hs.1, hs.2⟩
      | 9, hs => exact ⟨⟨(doneAt_ne d (by decide)).trans hs.1.1, (doneAt_ne d (by decide)).trans hs.1.2.1, (doneAt_ne d (by decide)).trans hs.1.2.2⟩, hs.2⟩
      | 10, hs => exact ⟨(doneAt_ne d (by decide)).trans hs.1, hs.2⟩
      | 11, _ => trivial
      | _ + 12, _ => trivial
    | n + 12, _, ho, _, _, _, _, _ => simp at ho
  · intro y9 V w9 hC9 hS
    have e10 : V 10 = .pointer (some ⟨y9.F 10, 0, none⟩) := (hS 10 (by decide) (by intro h; cases h)).2
    simp only [puts, put_none, e10]
    simp only [Act.put, List.setIfInBounds_toArray, List.set_cons_zero, List.set_cons_succ]
    clear hS e10
    have i5 : is3 5 := .inl rfl
    have i8 : is3 8 := .inr (.inl rfl)
    have i10 : is3 10 := .inr (.inr rfl)
    obtain ⟨q1, q2⟩ := hC9.arcs rfl
    have q5 := hC9.rng 5 rfl i5
    have q8 := hC9.rng 8 rfl i8
    have q10 := hC9.rng 10 rfl i10
    have x58 := hC9.dis 5 8 rfl rfl i5 i8 (by decide)
    have x5 := hC9.dis 5 10 rfl rfl i5 i10 (by decide)
    have x8 := hC9.dis 8 10 rfl rfl i8 i10 (by decide)
    have k5 := hC9.t5 rfl
    have k8 := hC9.t8 rfl
    have k10 := hC9.t10 rfl
    rw [if_pos (by rfl)] at k10
    have ofn : ∀ {H k : Nat}, ofT N H (fun _ => none) k → k = H := fun hk => by
      rcases hk with h1 | ⟨j, x, -, h2, -⟩
      · exact h1
      · cases h2
    have hB9 := hC9.bel.size
    have BV := hiddenN hC9.bel
    have LW0 : LW V0.heap.size V0 w9 L N (y9.F 10) (y9.F 5) (y9.F 8) y9.c y9.a (fun _ => none) (fun _ => none) (fun _ => 0) (fun _ => 0) (fun v => posU (toB (v : Int)) L 0) (fun v => posU (fromB (v : Int)) L 0) :=
      ⟨tabN_start q5.1 k5, tabN_start q8.1 k8, fun k h1 h2 => x58 ((ofn h1).symm.trans (ofn h2)), fun k h1 => ⟨by rw [ofn h1]; exact x5, fun x hx => by rw [ofn h1]; exact (q2 x hx).2.2 5 rfl i5⟩, fun k h1 => ⟨by rw [ofn h1]; exact x8, fun x hx => by rw [ofn h1]; exact (q2 x hx).2.2 8 rfl i8⟩, q1, fun x hx => ⟨(q2 x hx).1, (q2 x hx).2.1⟩, k10, hC9.bel⟩
    have HW0 := hiddenN LW0
    clear hC9 q1 q2 q5 q8 q10 x58 x5 x8 k5 k8 k10 LW0
    generalize y9.F 10 = P at *
    generalize y9.F 5 = H1 at *
    generalize y9.F 8 = H2 at *
    generalize y9.a = aA at *
    generalize y9.c = cA at *
    have g1 := (G0.out.below BV.out).cell (k := 1) rfl
    simp only [List.getElem_toArray, List.getElem_cons_zero, List.getElem_cons_succ] at g1
    clear y0 y1 HM CL
    go_wp2
    go_loopg [19] len (fun gk v wr => ∃ (q : Nat) (D1 D2 : Nat → Option Addr) (E1 E2 : Nat → Nat), q ≤ len ∧ gk = len - q ∧ v = .int .i64 (q : Int) ∧ LW V0.heap.size V0 wr L N P H1 H2 cA aA D1 D2 E1 E2 (fun v => posU (toB (v : Int)) L q) (fun v => posU (fromB (v : Int)) L q))
    case atStart => exact ⟨0, _, _, _, _, Nat.zero_le _, rfl, rfl, HW0.out⟩
    case round =>
      clear HW0 hB9 BV g1
      obtain ⟨q, D1, D2, E1, E2, hq, rfl, rfl, hW⟩ := hrel
      have HW := hiddenN hW
      clear hW
      have BR := hiddenN (B1.out.trans (HW.out.bel.mono B1.out.size))
      by_cases hlt : q < len
      · have hki : (q : Int) < (len : Int) := by omega
        rcases HA.out.below BR.out with e | ⟨b, off, rfl, hc⟩
        · have := HL.out; rw [e] at this; simp at this; omega
        obtain ⟨c0, c1, c2, c3, c4⟩ := hc q (by have := HL.out; omega)
        have SA := HSA.out q hlt
        obtain ⟨tv, etv⟩ : ∃ k : Nat, (nthNa L q).t = (k : Int) := ⟨(nthNa L q).t.toNat, by have := SA.t; omega⟩
        obtain ⟨fv, efv⟩ : ∃ k : Nat, (nthNa L q).f = (k : Int) := ⟨(nthNa L q).f.toNat, by have := SA.f; omega⟩
        have htv : tv < N := by have := SA.t; omega
        have hfv : fv < N := by have := SA.f; omega
        have T1 := hiddenN (toB_step (A := L) (q := q) etv)
        have T2 := hiddenN (fromB_step (A := L) (q := q) efv)
        rw [etv] at c1
        rw [efv] at c0
        generalize (nthNa L q).g = gg at *
        generalize (nthNa L q).k = kk at *
        generalize (nthNa L q).s = ss at *
        clear hc SA etv efv
        go_upto_region 5 with fail
        have bc := (Below.refl wr.heap.size wr).alloc (Nat.le_refl _) (.cells #[.int .i64 (fv : Int), .int .i64 (tv : Int), .int .i64 gg, .int .i64 kk, .int .i64 ss] 44)
        have XA1 := hiddenN (blkA_new 44 wr #[.int .i64 (fv : Int), .int .i64 (tv : Int), .int .i64 gg, .int .i64 kk, .int .i64 ss])
        have hVw := HW.out.bel.size
        have LX1 := hiddenN (HW.out.later bc hVw)
        have ltA : ∀ k, ofT N H1 D1 k → k < wr.heap.size := fun k hk => (HW.out.t1.lt hk).2
        have ltB : ∀ k, ofT N H2 D2 k → k < wr.heap.size := fun k hk => (HW.out.t2.lt hk).2
        have LTA := hiddenN ltA
        have LTB := hiddenN ltB
        have hab : wr.heap.size < (wr.alloc (.cells #[.int .i64 (fv : Int), .int .i64 (tv : Int), .int .i64 gg, .int .i64 kk, .int .i64 ss] 44)).heap.size := by rw [World.size_alloc]; omega
        have LB1 : Hid (V0.heap.size ≤ (wr.alloc (.cells #[.int .i64 (fv : Int), .int .i64 (tv : Int), .int .i64 gg, .int .i64 kk, .int .i64 ss] 44)).heap.size) := Nat.le_trans hVw bc.size
        obtain ⟨ab, hab'⟩ : ∃ ab, wr.heap.size = ab := ⟨_, rfl⟩
        rw [hab'] at XA1 LTA LTB hab ⊢
        generalize wr.alloc (.cells #[.int .i64 (fv : Int), .int .i64 (tv : Int), .int .i64 gg, .int .i64 kk, .int .i64 ss] 44) = V1 at *
        have CT1 := LX1.out.t1.long.cell htv
        have OW1 := hiddenN (LX1.out.t1.own tv htv)
        have NP1 : Hid (∀ y, D1 tv = some y → y.block ≠ P) := fun y hy => (LX1.out.p1 _ (.inr ⟨tv, y, htv, hy, rfl⟩)).1
        have NA1 : Hid (∀ y, D1 tv = some y → y.block ≠ ab) := fun y hy e => by have := LTA.out _ (.inr ⟨tv, y, htv, hy, rfl⟩); omega
        have hpl : (posU (toB (tv : Int)) L q).length ≤ 1000000 := by have := posU_len (toB (tv : Int)) L q; omega
        clear bc c0 c1 c2 c3 c4 hab' ltA ltB

        refine wp_region_gen [12, 14] (fun d i u z => match i with
            | 0 => z = .pointer (some ⟨P, 1, none⟩)
            | 1 => z = .slice (some ⟨H1, 0, none⟩) N N
            | 2 => z = .pointer (some ⟨ab, 1, none⟩)
            | 3 => z = .int .i64 (tv : Int)
            | 4 => z = .pointer (some ⟨P, 1, none⟩)
            | 5 => z = .slice (some ⟨H1, 0, none⟩) N N
            | 6 => z = .pointer (some ⟨ab, 1, none⟩)
            | 7 => z = .int .i64 (tv : Int)
            | 8 => z = .pointer (some ⟨H1, tv, none⟩)
            | 9 => z = .slice (D1 tv) (posU (toB (tv : Int)) L q).length (E1 tv)
            | 10 => z = .int .i64 (q : Int)
            | 11 => (d 12 = false → ∃ g, z = .slice (some ⟨g, 0, none⟩) 1 1 ∧ u.cell? ⟨g, 0, none⟩ = some (.int .i64 (q : Int)))
            | 12 => (d 12 = true ∧ (d 14 = false → ∃ dd cc, z = .slice dd ((posU (toB (tv : Int)) L q).length + 1) cc ∧ GrwN V0.heap.size V1 (D1 tv) ((posU (toB (tv : Int)) L q) ++ [(q : Int)]) u dd cc))
            | 13 => z = .pointer (some ⟨H1, tv, none⟩)
            | 14 => True
            | _ => True) (fun d u => (d 12 = false → Below V1.heap.size V1 u) ∧ (∀ k, k < V1.heap.size → (∀ y, D1 tv = some y → y.block ≠ k) → d 14 = false → u.heap[k]? = V1.heap[k]?) ∧ V1.heap.size ≤ u.heap.size ∧ (d 14 = true → ∃ dd cc, FinN V0.heap.size V1 H1 N tv D1 E1 (fun v => posU (toB (v : Int)) L q) ((posU (toB (tv : Int)) L q) ++ [(q : Int)]) u dd cc) ∧ (u.os = V1.os ∧ u.tape = V1.tape ∧ u.output = V1.output)) (by kernel_rfl) (by kernel_rfl) (by kernel_rfl) ?_ ?_ ?_ ?_ ?_ ?_ (by kernel_rfl)
        · intro d i w v w' h hb
          match i, h with
          | 0, h => exact h
          | 1, h => exact h
          | 2, h => exact h
          | 3, h => exact h
          | 4, h => exact h
          | 5, h => exact h
          | 6, h => exact h
          | 7, h => exact h
          | 8, h => exact h
          | 9, h => exact h
          | 10, h => exact h
          | 11, h => exact fun e => by obtain ⟨g, h1, h2⟩ := h e; exact ⟨g, h1, cellN_later hb h2⟩
          | 12, h => exact ⟨h.1, fun e => by obtain ⟨dd, cc, h1, h2⟩ := h.2 e; exact ⟨dd, cc, h1, h2.later hb⟩⟩
          | 13, h => exact h
          | 14, h => exact h
          | _ + 15, _ => trivial
        · intro d u u' h hb
          exact ⟨fun e => (h.1 e).trans (hb.mono (h.1 e).size), fun k hk hn e => (hb.block k (Nat.lt_of_lt_of_le hk h.2.2.1)).trans (h.2.1 k hk hn e), Nat.le_trans h.2.2.1 hb.size, fun e => by obtain ⟨dd, cc, hF⟩ := h.2.2.2.1 e; exact ⟨dd, cc, hF.later hb⟩, hb.os.trans h.2.2.2.2.1, hb.tape.trans h.2.2.2.2.2.1, hb.output.trans h.2.2.2.2.2.2⟩
        · exact ⟨fun _ => Below.refl _ _, fun _ _ _ _ => rfl, Nat.le_refl _, fun e => absurd e (by decide), rfl, rfl, rfl⟩
        · intro d i o ρ w' hm ho hf hg hC hcs hfs hfr hdep
          match i, hm, ho, hf, hg, hfr, hdep with
          | 0, _, ho, hf, hg, hfr, hdep =>
            simp only [List.getElem?_toArray, List.getElem?_cons_zero, Option.some.injEq] at ho
            subst ho
            refine ⟨fun _ => ?_, fun hw => absurd (show true = false from hw) (by decide)⟩
            have ts : ρ (.tmp 3) = .pointer (some ⟨P, 0, none⟩) := hfr 3 (by kernel_rfl)
            simp [go_sem, ts]
            exact ⟨Below.refl _ _, rfl⟩
          | 1, _, ho, hf, hg, hfr, hdep =>
            simp only [List.getElem?_toArray, List.getElem?_cons_zero, List.getElem?_cons_succ, Option.some.injEq] at ho
            subst ho
            refine ⟨fun _ => ?_, fun hw => absurd (show true = false from hw) (by decide)⟩
            have cc : w'.cell? ⟨P, 1, none⟩ = some (.slice (some ⟨H1, 0, none⟩) N N) := cell_block (hC.2.1 P LX1.out.blk.lt NP1.out (by first | exact hf 14 (by decide) (by kernel_rfl) | assumption)) (LX1.out.blk.cell rfl)
            have d0 : ρ (.tmp 24) = .pointer (some ⟨P, 1, none⟩) := hdep 0 24 (by kernel_rfl) (by kernel_rfl)
            simp [go_sem, d0, cc]
            exact ⟨Below.refl _ _, rfl⟩
          | 2, _, ho, hf, hg, hfr, hdep =>
            simp only [List.getElem?_toArray, List.getElem?_cons_zero, List.getElem?_cons_succ, Option.some.injEq] at ho
            subst ho
            refine ⟨fun _ => ?_, fun hw => absurd (show true = false from hw) (by decide)⟩
            have ts : ρ (.tmp 5) = .pointer (some ⟨ab, 0, none⟩) := hfr 5 (by kernel_rfl)
            simp [go_sem, ts]
            exact ⟨Below.refl _ _, rfl⟩
          | 3, _, ho, hf, hg, hfr, hdep =>
            simp only [List.getElem?_toArray, List.getElem?_cons_zero, List.getElem?_cons_succ, Option.some.injEq] at ho
            subst ho
            refine ⟨fun _ => ?_, fun hw => absurd (show true = false from hw) (by decide)⟩
            have cc : w'.cell? ⟨ab, 1, none⟩ = some (.int .i64 (tv : Int)) := cell_block (hC.2.1 ab XA1.out.lt NA1.out (by first | exact hf 14 (by decide) (by kernel_rfl) | assumption)) (XA1.out.cell rfl)
            have d0 : ρ (.tmp 26) = .pointer (some ⟨ab, 1, none⟩) := hdep 2 26 (by kernel_rfl) (by kernel_rfl)
            simp [go_sem, d0, cc]
            exact ⟨Below.refl _ _, rfl⟩
          | 4, _, ho, hf, hg, hfr, hdep =>
            simp only [List.getElem?_toArray, List.getElem?_cons_zero, List.getElem?_cons_succ, Option.some.injEq] at ho
            subst ho
            refine ⟨fun _ => ?_, fun hw => absurd (show true = false from hw) (by decide)⟩
            have ts : ρ (.tmp 3) = .pointer (some ⟨P, 0, none⟩) := hfr 3 (by kernel_rfl)
            simp [go_sem, ts]
            exact ⟨Below.refl _ _, rfl⟩
          | 5, _, ho, hf, hg, hfr, hdep =>
            simp only [List.getElem?_toArray, List.getElem?_cons_zero, List.getElem?_cons_succ, Option.some.injEq] at ho
            subst ho
            refine ⟨fun _ => ?_, fun hw => absurd (show true = false from hw) (by decide)⟩
            have cc : w'.cell? ⟨P, 1, none⟩ = some (.slice (some ⟨H1, 0, none⟩) N N) := cell_block (hC.2.1 P LX1.out.blk.lt NP1.out (by first | exact hf 14 (by decide) (by kernel_rfl) | assumption)) (LX1.out.blk.cell rfl)
            have d0 : ρ (.tmp 28) = .pointer (some ⟨P, 1, none⟩) := hdep 4 28 (by kernel_rfl) (by kernel_rfl)
            simp [go_sem, d0, cc]
            exact ⟨Below.refl _ _, rfl⟩
          | 6, _, ho, hf, hg, hfr, hdep =>
            simp only [List.getElem?_toArray, List.getElem?_cons_zero, List.getElem?_cons_succ, Option.some.injEq] at ho
            subst ho
            refine ⟨fun _ => ?_, fun hw => absurd (show true = false from hw) (by decide)⟩
            have ts : ρ (.tmp 5) = .pointer (some ⟨ab, 0, none⟩) := hfr 5 (by kernel_rfl)
            simp [go_sem, ts]
            exact ⟨Below.refl _ _, rfl⟩
          | 7, _, ho, hf, hg, hfr, hdep =>
            simp only [List.getElem?_toArray, List.getElem?_cons_zero, List.getElem?_cons_succ, Option.some.injEq] at ho
            subst ho
            refine ⟨fun _ => ?_, fun hw => absurd (show true = false from hw) (by decide)⟩
            have cc : w'.cell? ⟨ab, 1, none⟩ = some (.int .i64 (tv : Int)) := cell_block (hC.2.1 ab XA1.out.lt NA1.out (by first | exact hf 14 (by decide) (by kernel_rfl) | assumption)) (XA1.out.cell rfl)
            have d0 : ρ (.tmp 30) = .pointer (some ⟨ab, 1, none⟩) := hdep 6 30 (by kernel_rfl) (by kernel_rfl)
            simp [go_sem, d0, cc]
            exact ⟨Below.refl _ _, rfl⟩
          | 8, _, ho, hf, hg, hfr, hdep =>
            simp only [List.getElem?_toArray, List.getElem?_cons_zero, List.getElem?_cons_succ, Option.some.injEq] at ho
            subst ho
            refine ⟨fun _ => ?_, fun hw => absurd (show true = false from hw) (by decide)⟩
            have d0 : ρ (.tmp 29) = .slice (some ⟨H1, 0, none⟩) N N := hdep 5 29 (by kernel_rfl) (by kernel_rfl)
            have d1 : ρ (.tmp 31) = .int .i64 (tv : Int) := hdep 7 31 (by kernel_rfl) (by kernel_rfl)
            simp [go_sem, d0, d1, htv]
            exact ⟨Below.refl _ _, rfl⟩
          | 9, _, ho, hf, hg, hfr, hdep =>
            simp only [List.getElem?_toArray, List.getElem?_cons_zero, List.getElem?_cons_succ, Option.some.injEq] at ho
            subst ho
            refine ⟨fun _ => ?_, fun hw => absurd (show true = false from hw) (by decide)⟩
            have h12 : d 12 = false := hf 12 (by decide) (by kernel_rfl)
            have cc : w'.cell? ⟨H1, tv, none⟩ = some (.slice (D1 tv) (posU (toB (tv : Int)) L q).length (E1 tv)) := cellN_later (hC.1 h12) CT1
            have d0 : ρ (.tmp 32) = .pointer (some ⟨H1, tv, none⟩) := hdep 8 32 (by kernel_rfl) (by kernel_rfl)
            simp [go_sem, d0, cc]
            exact ⟨Below.refl _ _, rfl⟩
          | 10, _, ho, hf, hg, hfr, hdep =>
            simp only [List.getElem?_toArray, List.getElem?_cons_zero, List.getElem?_cons_succ, Option.some.injEq] at ho
            subst ho
            refine ⟨fun _ => ?_, fun hw => absurd (show true = false from hw) (by decide)⟩
            have ts : ρ (.tmp 4) = .int .i64 (q : Int) := hfr 4 (by kernel_rfl)
            simp [go_sem, ts]
            exact ⟨Below.refl _ _, rfl⟩
          | 11, _, ho, hf, hg, hfr, hdep =>
            simp only [List.getElem?_toArray, List.getElem?_cons_zero, List.getElem?_cons_succ, Option.some.injEq] at ho
            subst ho
            refine ⟨fun _ => ?_, fun hw => absurd (show true = false from hw) (by decide)⟩
            have t0 : ρ (.tmp 34) = .int .i64 (q : Int) := hdep 10 34 (by kernel_rfl) (by kernel_rfl)
            simp [go_sem, t0]
            exact ⟨(Below.refl _ _).alloc (Nat.le_refl _) _, fun _ => ⟨w'.heap.size, rfl, by simp⟩⟩
          | 12, hm, _, _, _, _, _ => exact absurd hm (by decide)
          | 13, _, ho, hf, hg, hfr, hdep =>
            simp only [List.getElem?_toArray, List.getElem?_cons_zero, List.getElem?_cons_succ, Option.some.injEq] at ho
            subst ho
            refine ⟨fun _ => ?_, fun hw => absurd (show true = false from hw) (by decide)⟩
            have d0 : ρ (.tmp 25) = .slice (some ⟨H1, 0, none⟩) N N := hdep 1 25 (by kernel_rfl) (by kernel_rfl)
            have d1 : ρ (.tmp 27) = .int .i64 (tv : Int) := hdep 3 27 (by kernel_rfl) (by kernel_rfl)
            simp [go_sem, d0, d1, htv]
            exact ⟨Below.refl _ _, rfl⟩
          | 14, hm, _, _, _, _, _ => exact absurd hm (by decide)
          | n + 15, _, ho, _, _, _, _ => simp at ho
        · intro d i o ρ w' hm ho h0 hf hg hC hcs hfs hfr hdep
          match i, hm, ho, h0, hf, hg, hfr, hdep with
          | 0, hm, _, _, _, _, _, _ => exact absurd hm (by decide)
          | 1, hm, _, _, _, _, _, _ => exact absurd hm (by decide)
          | 2, hm, _, _, _, _, _, _ => exact absurd hm (by decide)
          | 3, hm, _, _, _, _, _, _ => exact absurd hm (by decide)
          | 4, hm, _, _, _, _, _, _ => exact absurd hm (by decide)
          | 5, hm, _, _, _, _, _, _ => exact absurd hm (by decide)
          | 6, hm, _, _, _, _, _, _ => exact absurd hm (by decide)
          | 7, hm, _, _, _, _, _, _ => exact absurd hm (by decide)
          | 8, hm, _, _, _, _, _, _ => exact absurd hm (by decide)
          | 9, hm, _, _, _, _, _, _ => exact absurd hm (by decide)
          | 10, hm, _, _, _, _, _, _ => exact absurd hm (by decide)
          | 11, hm, _, _, _, _, _, _ => exact absurd hm (by decide)
          | 12, _, ho, h0, hf, hg, hfr, hdep =>
            simp only [List.getElem?_toArray, List.getElem?_cons_zero, List.getElem?_cons_succ, Option.some.injEq] at ho
            subst ho
            have t0 : ρ (.tmp 33) = .slice (D1 tv) (posU (toB (tv : Int)) L q).length (E1 tv) := hdep 9 33 (by kernel_rfl) (by kernel_rfl)
            obtain ⟨g, t1, cg⟩ : ∃ g, ρ (.tmp 35) = .slice (some ⟨g, 0, none⟩) 1 1 ∧ w'.cell? ⟨g, 0, none⟩ = some (.int .i64 (q : Int)) := hdep 11 35 (by kernel_rfl) (by kernel_rfl) h0
            have h14 : d 14 = false := hf 14 (by decide) (by kernel_rfl)
            refine ⟨rfl, mark_appN (.tmp 33) (.tmp 35) rfl t0 t1 OW1.out (hC.1 h0) cg (by omega) LB1.out ?_⟩
            intro u9 d9 c9 hG
            refine ⟨⟨fun e => absurd e (by rw [doneAt_eq]; decide), fun k hk hn _ => hG.keep k hk hn, hG.size, fun e => absurd ((doneAt_ne d (by decide)).symm.trans e) (by rw [h14]; decide), ?_⟩, fun _ => ⟨doneAt_eq _ _, fun _ => ⟨d9, c9, rfl, hG⟩⟩, ?_⟩
            · exact ⟨hG.os, hG.tape, hG.output⟩
            intro j t hj hs
            match j, hs with
            | 0, hs => exact hs
            | 1, hs => exact hs
            | 2, hs => exact hs
            | 3, hs => exact hs
            | 4, hs => exact hs
            | 5, hs => exact hs
            | 6, hs => exact hs
            | 7, hs => exact hs
            | 8, hs => exact hs
            | 9, hs => exact hs
            | 10, hs => exact hs
            | 11, hs => exact fun e => absurd e (by rw [doneAt_eq]; decide)
            | 12, hs => exact absurd hs.1 (by rw [h0]; decide)
            | 13, hs => exact hs
            | 14, _ => trivial
            | _ + 15, _ => trivial
          | 13, hm, _, _, _, _, _, _ => exact absurd hm (by decide)
          | 14, _, ho, h0, hf, hg, hfr, hdep =>
            simp only [List.getElem?_toArray, List.getElem?_cons_zero, List.getElem?_cons_succ, Option.some.injEq] at ho
            subst ho
            have t0 : ρ (.tmp 37) = .pointer (some ⟨H1, tv, none⟩) := hdep 13 37 (by kernel_rfl) (by kernel_rfl)
            have t9 : d 12 = true ∧ (d 14 = false → ∃ dd cc, ρ (.tmp 36) = .slice dd ((posU (toB (tv : Int)) L q).length + 1) cc ∧ GrwN V0.heap.size V1 (D1 tv) ((posU (toB (tv : Int)) L q) ++ [(q : Int)]) w' dd cc) := hdep 12 36 (by kernel_rfl) (by kernel_rfl)
            obtain ⟨dd, cc, e9, hG⟩ := t9.2 h0
            have hk := hG.keep H1 LX1.out.t1.long.lt (fun y hy => LX1.out.t1.dt tv y htv hy)
            have c1 : w'.cell? ⟨H1, tv, none⟩ = some (.slice (D1 tv) (posU (toB (tv : Int)) L q).length (E1 tv)) := cell_block hk CT1
            have f1 : w'.frozen? ⟨H1, tv, none⟩ = false := (LX1.out.t1.long.of_block hk).frozen _
            refine ⟨rfl, markUpon_skip (w' := w'.setCell ⟨H1, tv, none⟩ (.slice dd ((posU (toB (tv : Int)) L q).length + 1) cc)) (by simp [go_sem, t0, e9, c1, f1]) ?_⟩
            have hF := finN_of LX1.out.t1 htv hG
            rw [List.length_append] at hF
            refine ⟨⟨fun e => absurd ((doneAt_ne d (by decide)).symm.trans e) (by rw [t9.1]; decide), fun k hk hn e => absurd e (by rw [doneAt_eq]; decide), by rw [World.size_setCell]; exact hG.size, fun _ => ⟨dd, cc, hF⟩, ⟨hG.os, hG.tape, hG.output⟩⟩, fun h => absurd rfl h, ?_⟩
            intro j t hj hs
            match j, hs with
            | 0, hs => exact hs
            | 1, hs => exact hs
            | 2, hs => exact hs
            | 3, hs => exact hs
            | 4, hs => exact hs
            | 5, hs => exact hs
            | 6, hs => exact hs
            | 7, hs => exact hs
            | 8, hs => exact hs
            | 9, hs => exact hs
            | 10, hs => exact hs
            | 11, hs => exact fun e => absurd ((doneAt_ne d (by decide)).symm.trans e) (by rw [t9.1]; decide)
            | 12, hs => exact ⟨(doneAt_ne d (by decide)).trans hs.1, fun e => absurd e (by rw [doneAt_eq]; decide)⟩
            | 13, hs => exact hs
            | 14, _ => trivial
            | _ + 15, _ => trivial
          | n + 15, _, ho, _, _, _, _, _ => simp at ho
        · intro V w8 hC8 hS
          simp only [puts, put_none]
          simp only [Act.put, List.setIfInBounds_toArray, List.set_cons_zero, List.set_cons_succ]
          clear hS 
          obtain ⟨dd1, cc1, hF1⟩ := hC8.2.2.2.1 rfl
          have LX2 := hiddenN (LX1.out.step1 LB1.out htv hF1)
          have e1 := T1.out
          have XA2 : Hid (BlkA 44 ab w8 #[.int .i64 (fv : Int), .int .i64 (tv : Int), .int .i64 gg, .int .i64 kk, .int .i64 ss]) := XA1.out.keep (hF1.keep ab hab (fun e => by have := LTA.out ab e; omega))
          have LB2 : Hid (V0.heap.size ≤ w8.heap.size) := Nat.le_trans LB1.out hF1.size
          rw [e1] at LX2
          have CT2 := LX2.out.t2.long.cell hfv
          have OW2 := hiddenN (LX2.out.t2.own fv hfv)
          have NP2 : Hid (∀ y, D2 fv = some y → y.block ≠ P) := fun y hy => (LX2.out.p2 _ (.inr ⟨fv, y, hfv, hy, rfl⟩)).1
          have NA2 : Hid (∀ y, D2 fv = some y → y.block ≠ ab) := fun y hy e => by have := LTB.out _ (.inr ⟨fv, y, hfv, hy, rfl⟩); omega
          have hpl2 : (posU (fromB (fv : Int)) L q).length ≤ 1000000 := by have := posU_len (fromB (fv : Int)) L q; omega
          clear hC8 hF1 LX1 XA1 CT1 OW1 NP1 NA1 hpl e1
          go_upto_region 6 with fail

          refine wp_region_gen [12, 14] (fun d i u z => match i with
              | 0 => z = .pointer (some ⟨P, 2, none⟩)
              | 1 => z = .slice (some ⟨H2, 0, none⟩) N N
              | 2 => z = .pointer (some ⟨ab, 0, none⟩)
              | 3 => z = .int .i64 (fv : Int)
              | 4 => z = .pointer (some ⟨P, 2, none⟩)
              | 5 => z = .slice (some ⟨H2, 0, none⟩) N N
              | 6 => z = .pointer (some ⟨ab, 0, none⟩)
              | 7 => z = .int .i64 (fv : Int)
              | 8 => z = .pointer (some ⟨H2, fv, none⟩)
              | 9 => z = .slice (D2 fv) (posU (fromB (fv : Int)) L q).length (E2 fv)
              | 10 => z = .int .i64 (q : Int)
              | 11 => (d 12 = false → ∃ g, z = .slice (some ⟨g, 0, none⟩) 1 1 ∧ u.cell? ⟨g, 0, none⟩ = some (.int .i64 (q : Int)))
              | 12 => (d 12 = true ∧ (d 14 = false → ∃ dd cc, z = .slice dd ((posU (fromB (fv : Int)) L q).length + 1) cc ∧ GrwN V0.heap.size w8 (D2 fv) ((posU (fromB (fv : Int)) L q) ++ [(q : Int)]) u dd cc))
              | 13 => z = .pointer (some ⟨H2, fv, none⟩)
              | 14 => True
              | _ => True) (fun d u => (d 12 = false → Below w8.heap.size w8 u) ∧ (∀ k, k < w8.heap.size → (∀ y, D2 fv = some y → y.block ≠ k) → d 14 = false → u.heap[k]? = w8.heap[k]?) ∧ w8.heap.size ≤ u.heap.size ∧ (d 14 = true → ∃ dd cc, FinN V0.heap.size w8 H2 N fv D2 E2 (fun v => posU (fromB (v : Int)) L q) ((posU (fromB (fv : Int)) L q) ++ [(q : Int)]) u dd cc) ∧ (u.os = w8.os ∧ u.tape = w8.tape ∧ u.output = w8.output)) (by kernel_rfl) (by kernel_rfl) (by kernel_rfl) ?_ ?_ ?_ ?_ ?_ ?_ (by kernel_rfl)
          · intro d i w v w' h hb
            match i, h with
            | 0, h => exact h
            | 1, h => exact h
            | 2, h => exact h
            | 3, h => exact h
            | 4, h => exact h
            | 5, h => exact h
            | 6, h => exact h
            | 7, h => exact h
            | 8, h => exact h
            | 9, h => exact h
            | 10, h => exact h
            | 11, h => exact fun e => by obtain ⟨g, h1, h2⟩ := h e; exact ⟨g, h1, cellN_later hb h2⟩
            | 12, h => exact ⟨h.1, fun e => by obtain ⟨dd, cc, h1, h2⟩ := h.2 e; exact ⟨dd, cc, h1, h2.later hb⟩⟩
            | 13, h => exact h
            | 14, h => exact h
            | _ + 15, _ => trivial
          · intro d u u' h hb
            exact ⟨fun e => (h.1 e).trans (hb.mono (h.1 e).size), fun k hk hn e => (hb.block k (Nat.lt_of_lt_of_le hk h.2.2.1)).trans (h.2.1 k hk hn e), Nat.le_trans h.2.2.1 hb.size, fun e => by obtain ⟨dd, cc, hF⟩ := h.2.2.2.1 e; exact ⟨dd, cc, hF.later hb⟩, hb.os.trans h.2.2.2.2.1, hb.tape.trans h.2.2.2.2.2.1, hb.output.trans h.2.2.2.2.2.2⟩
          · exact ⟨fun _ => Below.refl _ _, fun _ _ _ _ => rfl, Nat.le_refl _, fun e => absurd e (by decide), rfl, rfl, rfl⟩
          · intro d i o ρ w' hm ho hf hg hC hcs hfs hfr hdep
            match i, hm, ho, hf, hg, hfr, hdep with
            | 0, _, ho, hf, hg, hfr, hdep =>
              simp only [List.getElem?_toArray, List.getElem?_cons_zero, Option.some.injEq] at ho
              subst ho
              refine ⟨fun _ => ?_, fun hw => absurd (show true = false from hw) (by decide)⟩
              have ts : ρ (.tmp 3) = .pointer (some ⟨P, 0, none⟩) := hfr 3 (by kernel_rfl)
              simp [go_sem, ts]
              exact ⟨Below.refl _ _, rfl⟩
            | 1, _, ho, hf, hg, hfr, hdep =>
              simp only [List.getElem?_toArray, List.getElem?_cons_zero, List.getElem?_cons_succ, Option.some.injEq] at ho
              subst ho
              refine ⟨fun _ => ?_, fun hw => absurd (show true = false from hw) (by decide)⟩
              have cc : w'.cell? ⟨P, 2, none⟩ = some (.slice (some ⟨H2, 0, none⟩) N N) := cell_block (hC.2.1 P LX2.out.blk.lt NP2.out (by first | exact hf 14 (by decide) (by kernel_rfl) | assumption)) (LX2.out.blk.cell rfl)
              have d0 : ρ (.tmp 38) = .pointer (some ⟨P, 2, none⟩) := hdep 0 38 (by kernel_rfl) (by kernel_rfl)
              simp [go_sem, d0, cc]
              exact ⟨Below.refl _ _, rfl⟩
            | 2, _, ho, hf, hg, hfr, hdep =>
              simp only [List.getElem?_toArray, List.getElem?_cons_zero, List.getElem?_cons_succ, Option.some.injEq] at ho
              subst ho
              refine ⟨fun _ => ?_, fun hw => absurd (show true = false from hw) (by decide)⟩
              have ts : ρ (.tmp 5) = .pointer (some ⟨ab, 0, none⟩) := hfr 5 (by kernel_rfl)
              simp [go_sem, ts]
              exact ⟨Below.refl _ _, rfl⟩
            | 3, _, ho, hf, hg, hfr, hdep =>
              simp only [List.getElem?_toArray, List.getElem?_cons_zero, List.getElem?_cons_succ, Option.some.injEq] at ho
              subst ho
              refine ⟨fun _ => ?_, fun hw => absurd (show true = false from hw) (by decide)⟩
              have cc : w'.cell? ⟨ab, 0, none⟩ = some (.int .i64 (fv : Int)) := cell_block (hC.2.1 ab XA2.out.lt NA2.out (by first | exact hf 14 (by decide) (by kernel_rfl) | assumption)) (XA2.out.cell rfl)
              have d0 : ρ (.tmp 40) = .pointer (some ⟨ab, 0, none⟩) := hdep 2 40 (by kernel_rfl) (by kernel_rfl)
              simp [go_sem, d0, cc]
              exact ⟨Below.refl _ _, rfl⟩
            | 4, _, ho, hf, hg, hfr, hdep =>
              simp only [List.getElem?_toArray, List.getElem?_cons_zero, List.getElem?_cons_succ, Option.some.injEq] at ho
              subst ho
              refine ⟨fun _ => ?_, fun hw => absurd (show true = false from hw) (by decide)⟩
              have ts : ρ (.tmp 3) = .pointer (some ⟨P, 0, none⟩) := hfr 3 (by kernel_rfl)
              simp [go_sem, ts]
              exact ⟨Below.refl _ _, rfl⟩
            | 5, _, ho, hf, hg, hfr, hdep =>
              simp only [List.getElem?_toArray, List.getElem?_cons_zero, List.getElem?_cons_succ, Option.some.injEq] at ho
              subst ho
              refine ⟨fun _ => ?_, fun hw => absurd (show true = false from hw) (by decide)⟩
              have cc : w'.cell? ⟨P, 2, none⟩ = some (.slice (some ⟨H2, 0, none⟩) N N) := cell_block (hC.2.1 P LX2.out.blk.lt NP2.out (by first | exact hf 14 (by decide) (by kernel_rfl) | assumption)) (LX2.out.blk.cell rfl)
              have d0 : ρ (.tmp 42) = .pointer (some ⟨P, 2, none⟩) := hdep 4 42 (by kernel_rfl) (by kernel_rfl)
              simp [go_sem, d0, cc]
              exact ⟨Below.refl _ _, rfl⟩
            | 6, _, ho, hf, hg, hfr, hdep =>
              simp only [List.getElem?_toArray, List.getElem?_cons_zero, List.getElem?_cons_succ, Option.some.injEq] at ho
              subst ho
              refine ⟨fun _ => ?_, fun hw => absurd (show true = false from hw) (by decide)⟩
              have ts : ρ (.tmp 5) = .pointer (some ⟨ab, 0, none⟩) := hfr 5 (by kernel_rfl)
              simp [go_sem, ts]
              exact ⟨Below.refl _ _, rfl⟩
            | 7, _, ho, hf, hg, hfr, hdep =>
              simp only [List.getElem?_toArray, List.getElem?_cons_zero, List.getElem?_cons_succ, Option.some.injEq] at ho
              subst ho
              refine ⟨fun _ => ?_, fun hw => absurd (show true = false from hw) (by decide)⟩
              have cc : w'.cell? ⟨ab, 0, none⟩ = some (.int .i64 (fv : Int)) := cell_block (hC.2.1 ab XA2.out.lt NA2.out (by first | exact hf 14 (by decide) (by kernel_rfl) | assumption)) (XA2.out.cell rfl)
              have d0 : ρ (.tmp 44) = .pointer (some ⟨ab, 0, none⟩) := hdep 6 44 (by kernel_rfl) (by kernel_rfl)
              simp [go_sem, d0, cc]
              exact ⟨Below.refl _ _, rfl⟩
            | 8, _, ho, hf, hg, hfr, hdep =>
              simp only [List.getElem?_toArray, List.getElem?_cons_zero, List.getElem?_cons_succ, Option.some.injEq] at ho
              subst ho
              refine ⟨fun _ => ?_, fun hw => absurd (show true = false from hw) (by decide)⟩
              have d0 : ρ (.tmp 43) = .slice (some ⟨H2, 0, none⟩) N N := hdep 5 43 (by kernel_rfl) (by kernel_rfl)
              have d1 : ρ (.tmp 45) = .int .i64 (fv : Int) := hdep 7 45 (by kernel_rfl) (by kernel_rfl)
              simp [go_sem, d0, d1, hfv]
              exact ⟨Below.refl _ _, rfl⟩
            | 9, _, ho, hf, hg, hfr, hdep =>
              simp only [List.getElem?_toArray, List.getElem?_cons_zero, List.getElem?_cons_succ, Option.some.injEq] at ho
              subst ho
              refine ⟨fun _ => ?_, fun hw => absurd (show true = false from hw) (by decide)⟩
              have h12 : d 12 = false := hf 12 (by decide) (by kernel_rfl)
              have cc : w'.cell? ⟨H2, fv, none⟩ = some (.slice (D2 fv) (posU (fromB (fv : Int)) L q).length (E2 fv)) := cellN_later (hC.1 h12) CT2
              have d0 : ρ (.tmp 46) = .pointer (some ⟨H2, fv, none⟩) := hdep 8 46 (by kernel_rfl) (by kernel_rfl)
              simp [go_sem, d0, cc]
              exact ⟨Below.refl _ _, rfl⟩
            | 10, _, ho, hf, hg, hfr, hdep =>
              simp only [List.getElem?_toArray, List.getElem?_cons_zero, List.getElem?_cons_succ, Option.some.injEq] at ho
              subst ho
              refine ⟨fun _ => ?_, fun hw => absurd (show true = false from hw) (by decide)⟩
              have ts : ρ (.tmp 4) = .int .i64 (q : Int) := hfr 4 (by kernel_rfl)
              simp [go_sem, ts]
              exact ⟨Below.refl _ _, rfl⟩
            | 11, _, ho, hf, hg, hfr, hdep =>
              simp only [List.getElem?_toArray, List.getElem?_cons_zero, List.getElem?_cons_succ, Option.some.injEq] at ho
              subst ho
              refine ⟨fun _ => ?_, fun hw => absurd (show true = false from hw) (by decide)⟩
              have t0 : ρ (.tmp 48) = .int .i64 (q : Int) := hdep 10 48 (by kernel_rfl) (by kernel_rfl)
              simp [go_sem, t0]
              exact ⟨(Below.refl _ _).alloc (Nat.le_refl _) _, fun _ => ⟨w'.heap.size, rfl, by simp⟩⟩
            | 12, hm, _, _, _, _, _ => exact absurd hm (by decide)
            | 13, _, ho, hf, hg, hfr, hdep =>
              simp only [List.getElem?_toArray, List.getElem?_cons_zero, List.getElem?_cons_succ, Option.some.injEq] at ho
              subst ho
              refine ⟨fun _ => ?_, fun hw => absurd (show true = false from hw) (by decide)⟩
              have d0 : ρ (.tmp 39) = .slice (some ⟨H2, 0, none⟩) N N := hdep 1 39 (by kernel_rfl) (by kernel_rfl)
              have d1 : ρ (.tmp 41) = .int .i64 (fv : Int) := hdep 3 41 (by kernel_rfl) (by kernel_rfl)
              simp [go_sem, d0, d1, hfv]
              exact ⟨Below.refl _ _, rfl⟩
            | 14, hm, _, _, _, _, _ => exact absurd hm (by decide)
            | n + 15, _, ho, _, _, _, _ => simp at ho
          · intro d i o ρ w' hm ho h0 hf hg hC hcs hfs hfr hdep
            match i, hm, ho, h0, hf, hg, hfr, hdep with
            | 0, hm, _, _, _, _, _, _ => exact absurd hm (by decide)
            | 1, hm, _, _, _, _, _, _ => exact absurd hm (by decide)
            | 2, hm, _, _, _, _, _, _ => exact absurd hm (by decide)
            | 3, hm, _, _, _, _, _, _ => exact absurd hm (by decide)
            | 4, hm, _, _, _, _, _, _ => exact absurd hm (by decide)
            | 5, hm, _, _, _, _, _, _ => exact absurd hm (by decide)
            | 6, hm, _, _, _, _, _, _ => exact absurd hm (by decide)
            | 7, hm, _, _, _, _, _, _ => exact absurd hm (by decide)
            | 8, hm, _, _, _, _, _, _ => exact absurd hm (by decide)
            | 9, hm, _, _, _, _, _, _ => exact absurd hm (by decide)
            | 10, hm, _, _, _, _, _, _ => exact absurd hm (by decide)
            | 11, hm, _, _, _, _, _, _ => exact absurd hm (by decide)
            | 12, _, ho, h0, hf, hg, hfr, hdep =>
              simp only [List.getElem?_toArray, List.getElem?_cons_zero, List.getElem?_cons_succ, Option.some.injEq] at ho
              subst ho
              have t0 : ρ (.tmp 47) = .slice (D2 fv) (posU (fromB (fv : Int)) L q).length (E2 fv) := hdep 9 47 (by kernel_rfl) (by kernel_rfl)
              obtain ⟨g, t1, cg⟩ : ∃ g, ρ (.tmp 49) = .slice (some ⟨g, 0, none⟩) 1 1 ∧ w'.cell? ⟨g, 0, none⟩ = some (.int .i64 (q : Int)) := hdep 11 49 (by kernel_rfl) (by kernel_rfl) h0
              have h14 : d 14 = false := hf 14 (by decide) (by kernel_rfl)
              refine ⟨rfl, mark_appN (.tmp 47) (.tmp 49) rfl t0 t1 OW2.out (hC.1 h0) cg (by omega) LB2.out ?_⟩
              intro u9 d9 c9 hG
              refine ⟨⟨fun e => absurd e (by rw [doneAt_eq]; decide), fun k hk hn _ => hG.keep k hk hn, hG.size, fun e => absurd ((doneAt_ne d (by decide)).symm.trans e) (by rw [h14]; decide), ?_⟩, fun _ => ⟨doneAt_eq _ _, fun _ => ⟨d9, c9, rfl, hG⟩⟩, ?_⟩
              · exact ⟨hG.os, hG.tape, hG.output⟩
              intro j t hj hs
              match j, hs with
              | 0, hs => exact hs
              | 1, hs => exact hs
              | 2, hs => exact hs
              | 3, hs => exact hs
              | 4, hs => exact hs
              | 5, hs => exact hs
              | 6, hs => exact hs
              | 7, hs => exact hs
              | 8, hs => exact hs
              | 9, hs => exact hs
              | 10, hs => exact hs
              | 11, hs => exact fun e => absurd e (by rw [doneAt_eq]; decide)
              | 12, hs => exact absurd hs.1 (by rw [h0]; decide)
              | 13, hs => exact hs
              | 14, _ => trivial
              | _ + 15, _ => trivial
            | 13, hm, _, _, _, _, _, _ => exact absurd hm (by decide)
            | 14, _, ho, h0, hf, hg, hfr, hdep =>
              simp only [List.getElem?_toArray, List.getElem?_cons_zero, List.getElem?_cons_succ, Option.some.injEq] at ho
              subst ho
              have t0 : ρ (.tmp 51) = .pointer (some ⟨H2, fv, none⟩) := hdep 13 51 (by kernel_rfl) (by kernel_rfl)
              have t9 : d 12 = true ∧ (d 14 = false → ∃ dd cc, ρ (.tmp 50) = .slice dd ((posU (fromB (fv : Int)) L q).length + 1) cc ∧ GrwN V0.heap.size w8 (D2 fv) ((posU (fromB (fv : Int)) L q) ++ [(q : Int)]) w' dd cc) := hdep 12 50 (by kernel_rfl) (by kernel_rfl)
              obtain ⟨dd, cc, e9, hG⟩ := t9.2 h0
              have hk := hG.keep H2 LX2.out.t2.long.lt (fun y hy => LX2.out.t2.dt fv y hfv hy)
              have c1 : w'.cell? ⟨H2, fv, none⟩ = some (.slice (D2 fv) (posU (fromB (fv : Int)) L q).length (E2 fv)) := cell_block hk CT2
              have f1 : w'.frozen? ⟨H2, fv, none⟩ = false := (LX2.out.t2.long.of_block hk).frozen _
              refine ⟨rfl, markUpon_skip (w' := w'.setCell ⟨H2, fv, none⟩ (.slice dd ((posU (fromB (fv : Int)) L q).length + 1) cc)) (by simp [go_sem, t0, e9, c1, f1]) ?_⟩
              have hF := finN_of LX2.out.t2 hfv hG
              rw [List.length_append] at hF
              refine ⟨⟨fun e => absurd ((doneAt_ne d (by decide)).symm.trans e) (by rw [t9.1]; decide), fun k hk hn e => absurd e (by rw [doneAt_eq]; decide), by rw [World.size_setCell]; exact hG.size, fun _ => ⟨dd, cc, hF⟩, ⟨hG.os, hG.tape, hG.output⟩⟩, fun h => absurd rfl h, ?_⟩
              intro j t hj hs
              match j, hs with
              | 0, hs => exact hs
              | 1, hs => exact hs
              | 2, hs => exact hs
              | 3, hs => exact hs
              | 4, hs => exact hs
              | 5, hs => exact hs
              | 6, hs => exact hs
              | 7, hs => exact hs
              | 8, hs => exact hs
              | 9, hs => exact hs
              | 10, hs => exact hs
              | 11, hs => exact fun e => absurd ((doneAt_ne d (by decide)).symm.trans e) (by rw [t9.1]; decide)
              | 12, hs => exact ⟨(doneAt_ne d (by decide)).trans hs.1, fun e => absurd e (by rw [doneAt_eq]; decide)⟩
              | 13, hs => exact hs
              | 14, _ => trivial
              | _ + 15, _ => trivial
            | n + 15, _, ho, _, _, _, _, _ => simp at ho
          · intro V w7 hC7 hS
            simp only [puts, put_none]
            simp only [Act.put, List.setIfInBounds_toArray, List.set_cons_zero, List.set_cons_succ]
            clear hS 
            obtain ⟨dd2, cc2, hF2⟩ := hC7.2.2.2.1 rfl
            have LX3 := hiddenN (LX2.out.step2 LB2.out hfv hF2)
            have e2 := T2.out
            rw [e2] at LX3
            clear hC7 hF2 LX2 XA2 CT2 OW2 NP2 NA2 hpl2 e2
            go_wp2
            go_roundg (len - (q + 1))
            case measure => omega
            case rel => exact ⟨q + 1, _, _, _, _, by omega, rfl, by go_num, LX3.out⟩
      · have ek : q = len := by omega
        subst ek
        have hki : ¬ (q : Int) < (q : Int) := by omega
        have z0 := HW.out.blk.cell (k := 0) rfl
        have z1 := HW.out.blk.cell (k := 1) rfl
        have z2 := HW.out.blk.cell (k := 2) rfl
        simp only [List.getElem_toArray, List.getElem_cons_zero, List.getElem_cons_succ] at z0 z1 z2
        rw [HL.out] at z0
        have G2 := hiddenN (G1.out.below HW.out.bel)
        have hlt2 := G1.out.lt
        have TT1 := hiddenN HW.out.t1
        have TT2 := hiddenN HW.out.t2
        have AR := hiddenN HW.out.arcs
        have AL := hiddenN HW.out.low
        have hV0 : w.heap.size + 1 < V0.heap.size := hlt2
        have HLq := hiddenN HL.out
        clear G1 HA HSA HL HW
        go_wp2_with (refine wpList_storeW _ rfl 69 (.tmp 2) (.tmp 53) rfl rfl (w.heap.size + 1) 69 _ _ rfl rfl G2.out sizWir rfl rfl ?_; intro w8 hN hU; have N8 := hiddenN hN; have U8 := hiddenN hU; clear hN hU)
        have t0 := N8.out.cell (k := 0) rfl
        have t1 := N8.out.cell (k := 1) rfl
        have t2 := N8.out.cell (k := 2) rfl
        simp only [List.getElem_toArray, List.getElem_cons_zero, List.getElem_cons_succ] at t0 t1 t2
        refine bodyPost_ret (v := .agg #[.slice aA q cA, .slice (some ⟨H1, 0, none⟩) N N, .slice (some ⟨H2, 0, none⟩) N N]) (by simp [results, Try.results31, go_sem, t0, t1, t2]) rfl ?_
        have old : ∀ k, V0.heap.size ≤ k → k < wr.heap.size → w8.heap[k]? = wr.heap[k]? := fun k h1 h2 => U8.out.block k h2 (by omega)
        have hNt : ((N : Int)).toNat = N := Int.toNat_natCast N
        rw [← HWE.out]
        unfold WiredE
        rw [hNt, show (⟨(N : Int), L⟩ : NN).arcs.length = q from HLq.out]
        refine ⟨aA, cA, H1, H2, D1, D2, E1, E2, rfl, AR.out.keep (fun x hx => old _ (AL.out x hx).1 (AL.out x hx).2), fun x hx => ⟨by have := (AL.out x hx).1; omega, Nat.lt_of_lt_of_le (AL.out x hx).2 U8.out.size⟩, ?_, ?_, BR.out.trans (U8.out.below (by omega) BR.out.size)⟩
        · have eY : (fun v : Nat => inArcsN ⟨(N : Int), L⟩ (v : Int)) = fun v : Nat => posU (toB (v : Int)) L q := by
            funext v
            show posU _ L L.length = _
            rw [HLq.out]
          rw [eY]
          refine (TT1.out.keep fun k hk => old k (TT1.out.lt hk).1 (TT1.out.lt hk).2).mono (show w.heap.size ≤ V0.heap.size by omega)
        · have eY : (fun v : Nat => outArcsN ⟨(N : Int), L⟩ (v : Int)) = fun v : Nat => posU (fromB (v : Int)) L q := by
            funext v
            show posU _ L L.length = _
            rw [HLq.out]
          rw [eY]
          refine (TT2.out.keep fun k hk => old k (TT2.out.lt hk).1 (TT2.out.lt hk).2).mono (show w.heap.size ≤ V0.heap.size by omega)
end Go.Proofs.Ytancphohpedigaa
