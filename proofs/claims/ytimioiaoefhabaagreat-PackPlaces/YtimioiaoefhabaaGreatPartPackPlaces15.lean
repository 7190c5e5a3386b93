/- Texts of one chain, laid one behind the other. -/
import Derived.Test.YtimioiaoefhabaaGreatPartPackPlaces12
import Derived.Test.YtimioiaoefhabaaGreatPartPackPlaces14
namespace Go.Proofs.YtimioiaoefhabaaGreat
open Go.ChangeShapes Go.WideShapes Go.ChangeAt Go.RowKit
/-- What is made while the wiring is laid out: the copy of the arcs, three blocks. -/
structure GhW where
  a : Option Addr
  c : Nat
  F : Nat → Nat
def is3 (j : Nat) : Prop := j = 5 ∨ j = 8 ∨ j = 10
structure CW (V : World) (L : List NA) (N : Nat) (y : GhW) (d : Nat → Bool) (u : World) : Prop where
  bel : Below V.heap.size V u
  arcs : d 2 = true → AtN u y.a L ∧ ∀ x, y.a = some x → V.heap.size ≤ x.block ∧ x.block < u.heap.size ∧ ∀ j, d j = true → is3 j → x.block ≠ y.F j
  rng : ∀ j, d j = true → is3 j → V.heap.size ≤ y.F j ∧ y.F j < u.heap.size
  dis : ∀ i j, d i = true → d j = true → is3 i → is3 j → i ≠ j → y.F i ≠ y.F j
  t5 : d 5 = true → u.rowIs (y.F 5) 25 N (fun _ => .slice none 0 0)
  t8 : d 8 = true → u.rowIs (y.F 8) 25 N (fun _ => .slice none 0 0)
  t10 : d 10 = true → BlkA 121 (y.F 10) u (if d 11 = true then #[.slice y.a L.length y.c, .slice (some ⟨y.F 5, 0, none⟩) N N, .slice (some ⟨y.F 8, 0, none⟩) N N] else #[.slice none 0 0, .slice none 0 0, .slice none 0 0])
theorem CW.start (V : World) (L : List NA) (N : Nat) (y : GhW) : CW V L N y (fun _ => false) V :=
  ⟨Below.refl _ _, (fun h => by cases h), (fun _ h => by cases h), (fun _ _ h => by cases h), (fun h => by cases h), (fun h => by cases h), (fun h => by cases h)⟩
theorem CW.later {V u u' : World} {L : List NA} {N : Nat} {y : GhW} {d : Nat → Bool} (h : CW V L N y d u) (hb : Below u.heap.size u u') : CW V L N y d u' := by
  have hs := hb.size
  refine ⟨h.bel.trans (hb.mono h.bel.size), fun e => ?_, fun j e hj => ?_, h.dis, fun e => (h.t5 e).of_block (hb.block _ (h.t5 e).lt), fun e => (h.t8 e).of_block (hb.block _ (h.t8 e).lt), fun e => (h.t10 e).below hb⟩
  · obtain ⟨h1, h2⟩ := h.arcs e
    exact ⟨h1.below hb, fun x hx => ⟨(h2 x hx).1, Nat.lt_of_lt_of_le (h2 x hx).2.1 hs, (h2 x hx).2.2⟩⟩
  · have := h.rng j e hj
    exact ⟨this.1, by omega⟩
theorem doneAt_eq (d : Nat → Bool) (i : Nat) : doneAt d i i = true := by unfold doneAt; rw [if_pos rfl]
theorem doneAt_ne (d : Nat → Bool) {i j : Nat} (h : j ≠ i) : doneAt d i j = d j := by unfold doneAt; rw [if_neg h]
theorem CW.m2 {V u u' : World} {L : List NA} {N : Nat} {y : GhW} {d : Nat → Bool} {a : Option Addr} {c : Nat} (h : CW V L N y d u) (h11 : d 11 = false) (h1 : AtN u' a L) (h2 : ∀ x, a = some x → u.heap.size ≤ x.block ∧ x.block < u'.heap.size) (hb : Below u.heap.size u u') : CW V L N ⟨a, c, y.F⟩ (doneAt d 2) u' := by
  have g := h.later hb
  have hs := h.bel.size
  have d11 : doneAt d 2 11 = false := (doneAt_ne d (by decide)).trans h11
  have t10 := g.t10
  rw [h11] at t10
  have k3 : ∀ j, doneAt d 2 j = true → is3 j → d j = true := fun j hj h3 => by
    rw [doneAt_ne d (by rcases h3 with rfl | rfl | rfl <;> decide)] at hj; exact hj
  refine ⟨g.bel, fun _ => ⟨h1, fun x hx => ⟨by have := (h2 x hx).1; omega, (h2 x hx).2, fun j hj h3 => ?_⟩⟩, fun j hj h3 => g.rng j (k3 j hj h3) h3, fun i j hi hj i3 j3 => g.dis i j (k3 i hi i3) (k3 j hj j3) i3 j3, g.t5, g.t8, ?_⟩
  · have q1 := (h.rng j (k3 j hj h3) h3).2
    have q2 := (h2 x hx).1
    show x.block ≠ y.F j
    omega
  · rw [d11]; exact t10
theorem CW.made {V u : World} {L : List NA} {N : Nat} {y : GhW} {d : Nat → Bool} (i : Nat) (o : Obj) (hi : is3 i) (h : CW V L N y d u) (h0 : d i = false) (h11 : d 11 = false)
    (h5 : i = 5 → (u.alloc o).rowIs u.heap.size 25 N (fun _ => .slice none 0 0)) (h8 : i = 8 → (u.alloc o).rowIs u.heap.size 25 N (fun _ => .slice none 0 0)) (h10 : i = 10 → BlkA 121 u.heap.size (u.alloc o) #[.slice none 0 0, .slice none 0 0, .slice none 0 0]) : CW V L N ⟨y.a, y.c, upd y.F i u.heap.size⟩ (doneAt d i) (u.alloc o) := by
  have hb : Below u.heap.size u (u.alloc o) := (Below.refl _ _).alloc (Nat.le_refl _) o
  have g := h.later hb
  have hs := h.bel.size
  have hsz : (u.alloc o).heap.size = u.heap.size + 1 := World.size_alloc _ _
  have n2 : (2 : Nat) ≠ i := by rcases hi with rfl | rfl | rfl <;> decide
  have n11 : (11 : Nat) ≠ i := by rcases hi with rfl | rfl | rfl <;> decide
  have d11 : doneAt d i 11 = false := (doneAt_ne d n11).trans h11
  have t10 := g.t10
  rw [h11] at t10
  have old : ∀ j, doneAt d i j = true → j ≠ i → d j = true := fun j hj hne => by rw [doneAt_ne d hne] at hj; exact hj
  refine ⟨g.bel, fun h2 => ?_, fun j hj h3 => ?_, fun p q hp hq p3 q3 hne => ?_, fun h5' => ?_, fun h8' => ?_, fun h10' => ?_⟩
  · rw [doneAt_ne d n2] at h2
    obtain ⟨q1, q2⟩ := g.arcs h2
    refine ⟨q1, fun x hx => ⟨(q2 x hx).1, (q2 x hx).2.1, fun j hj h3 => ?_⟩⟩
    by_cases e : j = i
    · subst e
      show x.block ≠ upd y.F j u.heap.size j
      rw [upd_eq]
      have := ((h.arcs h2).2 x hx).2.1
      omega
    · show x.block ≠ upd y.F i u.heap.size j
      rw [upd_ne e]
      exact (q2 x hx).2.2 j (old j hj e) h3
  · by_cases e : j = i
    · subst e
      show V.heap.size ≤ upd y.F j u.heap.size j ∧ upd y.F j u.heap.size j < _
      rw [upd_eq, hsz]; omega
    · show V.heap.size ≤ upd y.F i u.heap.size j ∧ upd y.F i u.heap.size j < _
      rw [upd_ne e]; exact g.rng j (old j hj e) h3
  · show upd y.F i u.heap.size p ≠ upd y.F i u.heap.size q
    by_cases e : p = i
    · subst e
      rw [upd_eq, upd_ne (Ne.symm hne)]
      have := (h.rng q (old q hq (Ne.symm hne)) q3).2
      omega
    · rw [upd_ne e]
      by_cases e2 : q = i
      · subst e2
        rw [upd_eq]
        have := (h.rng p (old p hp e) p3).2
        omega
      · rw [upd_ne e2]
        exact g.dis p q (old p hp e) (old q hq e2) p3 q3 hne
  · by_cases e : (5 : Nat) = i
    · show (u.alloc o).rowIs (upd y.F i u.heap.size 5) 25 N _
      rw [← e, upd_eq]; exact h5 e.symm
    · show (u.alloc o).rowIs (upd y.F i u.heap.size 5) 25 N _
      rw [upd_ne e]; exact g.t5 (old 5 h5' e)
  · by_cases e : (8 : Nat) = i
    · show (u.alloc o).rowIs (upd y.F i u.heap.size 8) 25 N _
      rw [← e, upd_eq]; exact h8 e.symm
    · show (u.alloc o).rowIs (upd y.F i u.heap.size 8) 25 N _
      rw [upd_ne e]; exact g.t8 (old 8 h8' e)
  · rw [d11]
    by_cases e : (10 : Nat) = i
    · show BlkA 121 (upd y.F i u.heap.size 10) (u.alloc o) _
      rw [← e, upd_eq]; exact h10 e.symm
    · show BlkA 121 (upd y.F i u.heap.size 10) (u.alloc o) _
      rw [upd_ne e]; exact t10 (old 10 h10' e)
theorem CW.m11 {V u u' : World} {L : List NA} {N : Nat} {y : GhW} {d : Nat → Bool} (h : CW V L N y d u) (h2 : d 2 = true) (h5 : d 5 = true) (h8 : d 8 = true) (h10 : d 10 = true)
    (hb : But (y.F 10) u u') (hs : BlkA 121 (y.F 10) u' #[.slice y.a L.length y.c, .slice (some ⟨y.F 5, 0, none⟩) N N, .slice (some ⟨y.F 8, 0, none⟩) N N]) : CW V L N y (doneAt d 11) u' := by
  have i5 : is3 5 := .inl rfl
  have i8 : is3 8 := .inr (.inl rfl)
  have i10 : is3 10 := .inr (.inr rfl)
  have k : ∀ j, is3 j → doneAt d 11 j = true → d j = true := fun j h3 hj => by
    rw [doneAt_ne d (by rcases h3 with rfl | rfl | rfl <;> decide)] at hj; exact hj
  obtain ⟨a1, a2⟩ := h.arcs h2
  refine ⟨h.bel.trans (hb.below (h.rng 10 h10 i10).1 h.bel.size), fun _ => ⟨a1.keep fun x hx => hb.block _ (a2 x hx).2.1 ((a2 x hx).2.2 10 h10 i10), fun x hx => ⟨(a2 x hx).1, Nat.lt_of_lt_of_le (a2 x hx).2.1 hb.size, fun j hj h3 => (a2 x hx).2.2 j (k j h3 hj) h3⟩⟩, fun j hj h3 => ?_, fun p q hp hq p3 q3 => h.dis p q (k p p3 hp) (k q q3 hq) p3 q3, fun _ => (h.t5 h5).of_block (hb.block _ (h.t5 h5).lt (h.dis 5 10 h5 h10 i5 i10 (by decide))), fun _ => (h.t8 h8).of_block (hb.block _ (h.t8 h8).lt (h.dis 8 10 h8 h10 i8 i10 (by decide))), fun _ => ?_⟩
  · have := h.rng j (k j h3 hj) h3
    exact ⟨this.1, Nat.lt_of_lt_of_le this.2 hb.size⟩
  · rw [doneAt_eq, if_pos rfl]; exact hs
theorem mark_storeN {w : World} {o : Oper} {ρ : Operand → Value} (ty : TypeId) (x y : Operand) (ho : o.op = .store ty x y) (b : Nat) (S : TypeId) (old cells : Array Value) (hx : ρ x = .pointer (some ⟨b, 0, none⟩)) (hy : ρ y = .agg cells) (hB : BlkA S b w old) (hi : (Tryz.prog.info? ty).map (·.size) = some cells.size) (hold : old.size = cells.size) (h1 : cells.toList.all (·.oneCell') = true)
    {Q : World → Value → Prop} (h : ∀ w', BlkA S b w' cells → But b w w' → Q w' undef) : markUpon Tryz.prog w Q ((execOp ρ o).run Tryz.prog w) := by
  have hr := run_storeVar_row (P := Tryz.prog) w b S ty old cells hB hi hold (by rw [← Array.all_toList]; exact h1)
  unfold execOp
  simp only [ho, hx, hy, Instr.storeAt, Instr.sureAddr, Sem.run_bind, Sem.run_pure, Result.andThen_ok, hr]
  exact h _ (setRow_heap w b old cells S _ hB) (setRow_but w b cells)
theorem Tryz.infoSN : (Tryz.prog.info? 25).map (fun i => (i.zero, i.size, i.bytes)) = some (some (.slice none 0 0), 1, 24) := by kernel_rfl
theorem sizWir : (Tryz.prog.info? 121).map (·.size) = some 3 := by kernel_rfl
/-- A row that has grown by one number; what else has stayed. -/
structure GrwN (B : Nat) (V : World) (d0 : Option Addr) (L : List Int) (u : World) (d : Option Addr) (c : Nat) : Prop where
  own : CapR B u d c L
  keep : ∀ k, k < V.heap.size → (∀ y, d0 = some y → y.block ≠ k) → u.heap[k]? = V.heap[k]?
  new : ∀ z, d = some z → d0 = some z ∨ V.heap.size ≤ z.block
  size : V.heap.size ≤ u.heap.size
  os : u.os = V.os
  tape : u.tape = V.tape
  output : u.output = V.output
theorem GrwN.later {B : Nat} {V u u' : World} {d0 : Option Addr} {L : List Int} {d : Option Addr} {c : Nat} (h : GrwN B V d0 L u d c) (hb : Below u.heap.size u u') : GrwN B V d0 L u' d c :=
  ⟨h.own.later hb, fun k hk hn => (hb.block k (Nat.lt_of_lt_of_le hk h.size)).trans (h.keep k hk hn), h.new, Nat.le_trans h.size hb.size, hb.os.trans h.os, hb.tape.trans h.tape, hb.output.trans h.output⟩
theorem mark_appN {V w : World} {o : Oper} {ρ : Operand → Value} (s x : Operand) (ho : o.op = .call { callee := .builtin .append, args := #[s, x], argTypes := #[25, 25] }) {B g c0 : Nat} {d0 : Option Addr} {zs : List Int} {i : Int} (hs : ρ s = .slice d0 zs.length c0) (hx : ρ x = .slice (some ⟨g, 0, none⟩) 1 1) (hown : CapR B V d0 c0 zs) (hb : Below V.heap.size V w) (hc : w.cell? ⟨g, 0, none⟩ = some (.int .i64 i)) (hn : zs.length ≤ 1000000) (hB : B ≤ V.heap.size)
    {T : World → Value → Prop} (h : ∀ u d c, GrwN B V d0 (zs ++ [i]) u d c → T u (.slice d (zs.length + 1) c)) : markUpon Tryz.prog w T ((execOp ρ o).run Tryz.prog w) := by
  obtain ⟨i1, hi1, hy0, hy1, hy2⟩ := info_parts Tryz.info3
  have hown2 : CapR B w d0 c0 zs := hown.later hb
  obtain ⟨v', w', hr, h2, h3⟩ := run_append_told (P := Tryz.prog) w B 25 o.type 3 i1 (.int .i64 0) 1 8 Tryz.underlying25 hi1 hy0 hy1 hy2 rfl (by decide) (.slice d0 zs.length c0) zs.length _ hown2 ⟨g, 0, none⟩ 1 1 (by decide) [.int .i64 i] rfl (fun j u hu => by
    match j, hu with
    | 0, hu =>
      simp at hu
      subst hu
      simpa [Addr.add] using hc) (fun u hu => by simp at hu; subst hu; rfl) (by unfold maxLen; omega) (by omega) (Nat.le_trans hB hb.size)
  have h2' : w'.ownsRow B 3 1 v' (zs ++ [i]).length ((zs ++ [i]).map (Value.int .i64)) := by simpa using h2
  unfold execOp
  simp only [ho, resolve, invoke, builtin, Sem.run_bind, Sem.run_pure, Result.andThen_ok, List.map_toArray, List.map_cons, List.map_nil, hs, hx, hr]
  rcases h3 with ⟨g1, cap, e1, rfl, hg⟩ | ⟨cap, rfl, hg⟩
  · cases e1
    refine h w' _ _ ⟨by unfold CapR; simpa using h2', fun k hk hne => ?_, fun z hz => .inl hz, Nat.le_trans hb.size hg.size, hg.os.trans hb.os, hg.tape.trans hb.tape, hg.output.trans hb.output⟩
    exact (hg.block k (Nat.lt_of_lt_of_le hk hb.size) (fun e => by cases e; exact hne _ rfl rfl)).trans (hb.block k hk)
  · refine h w' _ _ ⟨by unfold CapR; simpa using h2', fun k hk hne => ?_, fun z hz => by cases hz; exact .inr hb.size, Nat.le_trans hb.size hg.size, hg.os.trans hb.os, hg.tape.trans hb.tape, hg.output.trans hb.output⟩
    exact (hg.block k (Nat.lt_of_lt_of_le hk hb.size) (fun e => by cases e)).trans (hb.block k hk)
/-- How things lie while the tables are filled. -/
structure LW (B : Nat) (V0 wr : World) (L : List NA) (N : Nat) (P H1 H2 cA : Nat) (aA : Option Addr) (D1 D2 : Nat → Option Addr) (E1 E2 : Nat → Nat) (Y1 Y2 : Nat → List Int) : Prop where
  t1 : TabN B wr H1 N D1 E1 Y1
  t2 : TabN B wr H2 N D2 E2 Y2
  sep : ∀ k, ofT N H1 D1 k → ¬ ofT N H2 D2 k
  p1 : ∀ k, ofT N H1 D1 k → k ≠ P ∧ ∀ x, aA = some x → x.block ≠ k
  p2 : ∀ k, ofT N H2 D2 k → k ≠ P ∧ ∀ x, aA = some x → x.block ≠ k
  arcs : AtN wr aA L
  low : ∀ x, aA = some x → B ≤ x.block ∧ x.block < wr.heap.size
  blk : BlkA 121 P wr #[.slice aA L.length cA, .slice (some ⟨H1, 0, none⟩) N N, .slice (some ⟨H2, 0, none⟩) N N]
  bel : Below B V0 wr
theorem LW.later {B : Nat} {V0 wr w' : World} {L : List NA} {N : Nat} {P H1 H2 cA : Nat} {aA : Option Addr} {D1 D2 : Nat → Option Addr} {E1 E2 : Nat → Nat} {Y1 Y2 : Nat → List Int} (h : LW B V0 wr L N P H1 H2 cA aA D1 D2 E1 E2 Y1 Y2) (hb : Below wr.heap.size wr w') (hB : B ≤ wr.heap.size) : LW B V0 w' L N P H1 H2 cA aA D1 D2 E1 E2 Y1 Y2 :=
  ⟨h.t1.below hb, h.t2.below hb, h.sep, h.p1, h.p2, h.arcs.below hb, fun x hx => ⟨(h.low x hx).1, Nat.lt_of_lt_of_le (h.low x hx).2 hb.size⟩, h.blk.below hb, h.bel.trans (hb.mono hB)⟩
/-- One row of a table has grown, the table's cell is set: what has become of the world. -/
structure FinN (B : Nat) (V : World) (H N tv : Nat) (D : Nat → Option Addr) (E : Nat → Nat) (Y : Nat → List Int) (R : List Int) (u : World) (d : Option Addr) (c : Nat) : Prop where
  tab : TabN B u H N (upd D tv d) (upd E tv c) (upd Y tv R)
  keep : ∀ k, k < V.heap.size → ¬ ofT N H D k → u.heap[k]? = V.heap[k]?
  new : ∀ z, d = some z → D tv = some z ∨ V.heap.size ≤ z.block
  size : V.heap.size ≤ u.heap.size
  os : u.os = V.os
  tape : u.tape = V.tape
  output : u.output = V.output
theorem LW.step1 {B : Nat} {V0 V u : World} {L : List NA} {N : Nat} {P H1 H2 cA tv c : Nat} {aA d : Option Addr} {D1 D2 : Nat → Option Addr} {E1 E2 : Nat → Nat} {Y1 Y2 : Nat → List Int} {R : List Int} (h : LW B V0 V L N P H1 H2 cA aA D1 D2 E1 E2 Y1 Y2) (hB : B ≤ V.heap.size) (htv : tv < N) (f : FinN B V H1 N tv D1 E1 Y1 R u d c) : LW B V0 u L N P H1 H2 cA aA (upd D1 tv d) D2 (upd E1 tv c) E2 (upd Y1 tv R) Y2 := by
  have in1 : ∀ k, ofT N H1 (upd D1 tv d) k → ofT N H1 D1 k ∨ V.heap.size ≤ k := fun k hk => by
    rcases ofT_put hk with h1 | ⟨z, hz, rfl⟩
    · exact .inl h1
    · rcases f.new z hz with h2 | h2
      · exact .inl (.inr ⟨tv, z, htv, h2, rfl⟩)
      · exact .inr h2
  have k2 : ∀ k, ofT N H2 D2 k → u.heap[k]? = V.heap[k]? := fun k hk => f.keep k (h.t2.lt hk).2 (fun e => h.sep k e hk)
  refine ⟨f.tab, h.t2.keep k2, fun k hk hk' => ?_, fun k hk => ?_, h.p2, h.arcs.keep (fun x hx => f.keep _ (h.low x hx).2 (fun e => (h.p1 _ e).2 x hx rfl)), fun x hx => ⟨(h.low x hx).1, Nat.lt_of_lt_of_le (h.low x hx).2 f.size⟩, h.blk.keep (f.keep _ h.blk.lt (fun e => (h.p1 _ e).1 rfl)), ⟨f.os.trans h.bel.os, f.tape.trans h.bel.tape, f.output.trans h.bel.output, Nat.le_trans h.bel.size f.size, fun k hk => (f.keep k (Nat.lt_of_lt_of_le hk hB) (fun e => by have := (h.t1.lt e).1; omega)).trans (h.bel.block k hk)⟩⟩
  · rcases in1 k hk with h1 | h1
    · exact h.sep k h1 hk'
    · have := (h.t2.lt hk').2; omega
  · rcases in1 k hk with h1 | h1
    · exact h.p1 k h1
    · exact ⟨by have := h.blk.lt; omega, fun x hx => by have := (h.low x hx).2; omega⟩
theorem LW.step2 {B : Nat} {V0 V u : World} {L : List NA} {N : Nat} {P H1 H2 cA tv c : Nat} {aA d : Option Addr} {D1 D2 : Nat → Option Addr} {E1 E2 : Nat → Nat} {Y1 Y2 : Nat → List Int} {R : List Int} (h : LW B V0 V L N P H1 H2 cA aA D1 D2 E1 E2 Y1 Y2) (hB : B ≤ V.heap.size) (htv : tv < N) (f : FinN B V H2 N tv D2 E2 Y2 R u d c) : LW B V0 u L N P H1 H2 cA aA D1 (upd D2 tv d) E1 (upd E2 tv c) Y1 (upd Y2 tv R) := by
  have in2 : ∀ k, ofT N H2 (upd D2 tv d) k → ofT N H2 D2 k ∨ V.heap.size ≤ k := fun k hk => by
    rcases ofT_put hk with h1 | ⟨z, hz, rfl⟩
    · exact .inl h1
    · rcases f.new z hz with h2 | h2
      · exact .inl (.inr ⟨tv, z, htv, h2, rfl⟩)
      · exact .inr h2
  have k2 : ∀ k, ofT N H1 D1 k → u.heap[k]? = V.heap[k]? := fun k hk => f.keep k (h.t1.lt hk).2 (fun e => h.sep k hk e)
  refine ⟨h.t1.keep k2, f.tab, fun k hk hk' => ?_, h.p1, fun k hk => ?_, h.arcs.keep (fun x hx => f.keep _ (h.low x hx).2 (fun e => (h.p2 _ e).2 x hx rfl)), fun x hx => ⟨(h.low x hx).1, Nat.lt_of_lt_of_le (h.low x hx).2 f.size⟩, h.blk.keep (f.keep _ h.blk.lt (fun e => (h.p2 _ e).1 rfl)), ⟨f.os.trans h.bel.os, f.tape.trans h.bel.tape, f.output.trans h.bel.output, Nat.le_trans h.bel.size f.size, fun k hk => (f.keep k (Nat.lt_of_lt_of_le hk hB) (fun e => by have := (h.t2.lt e).1; omega)).trans (h.bel.block k hk)⟩⟩
  · rcases in2 k hk' with h1 | h1
    · exact h.sep k hk h1
    · have := (h.t1.lt hk).2; omega
  · rcases in2 k hk with h1 | h1
    · exact h.p2 k h1
    · exact ⟨by have := h.blk.lt; omega, fun x hx => by have := (h.low x hx).2; omega⟩
theorem finN_of {B : Nat} {V u : World} {H N tv c : Nat} {D : Nat → Option Addr} {E : Nat → Nat} {Y : Nat → List Int} {R : List Int} {d : Option Addr} (h : TabN B V H N D E Y) (hi : tv < N) (g : GrwN B V (D tv) R u d c) : FinN B V H N tv D E Y R (u.setCell ⟨H, tv, none⟩ (.slice d R.length c)) d c := by
  refine ⟨h.put hi g.own g.keep g.new, fun k hk hn => ?_, g.new, by rw [World.size_setCell]; exact g.size, g.os, g.tape, g.output⟩
  have k1 : k ≠ H := fun e => hn (.inl e)
  rw [Below.heap_setCell u ⟨H, tv, none⟩ _ k k1]
  exact g.keep k hk (fun y hy e => hn (.inr ⟨tv, y, hi, hy, e⟩))
theorem toB_step {A : List NA} {q tv : Nat} (h : (nthNa A q).t = (tv : Int)) : upd (fun v : Nat => posU (toB (v : Int)) A q) tv (posU (toB (tv : Int)) A q ++ [(q : Int)]) = fun v : Nat => posU (toB (v : Int)) A (q + 1) := by
  funext v
  by_cases e : v = tv
  · subst e; rw [upd_eq, posU_yes (by unfold toB; exact decide_eq_true h)]
  · rw [upd_ne e, posU_no (by unfold toB; exact decide_eq_false (by rw [h]; omega))]
theorem fromB_step {A : List NA} {q tv : Nat} (h : (nthNa A q).f = (tv : Int)) : upd (fun v : Nat => posU (fromB (v : Int)) A q) tv (posU (fromB (tv : Int)) A q ++ [(q : Int)]) = fun v : Nat => posU (fromB (v : Int)) A (q + 1) := by
  funext v
  by_cases e : v = tv
  · subst e; rw [upd_eq, posU_yes (by unfold fromB; exact decide_eq_true h)]
  · rw [upd_ne e, posU_no (by unfold fromB; exact decide_eq_false (by rw [h]; omega))]
theorem FinN.later {B : Nat} {V u u' : World} {H N tv c : Nat} {D : Nat → Option Addr} {E : Nat → Nat} {Y : Nat → List Int} {R : List Int} {d : Option Addr} (h : FinN B V H N tv D E Y R u d c) (hb : Below u.heap.size u u') : FinN B V H N tv D E Y R u' d c :=
  ⟨h.tab.below hb, fun k hk hn => (hb.block k (Nat.lt_of_lt_of_le hk h.size)).trans (h.keep k hk hn), h.new, Nat.le_trans h.size hb.size, hb.os.trans h.os, hb.tape.trans h.tape, hb.output.trans h.output⟩
def WiredE (n : NN) (w : World) (e : Ending) (w' : World) : Prop := ∃ (aA : Option Addr) (cA H1 H2 : Nat) (D1 D2 : Nat → Option Addr) (E1 E2 : Nat → Nat), e = .returned (.agg #[.slice aA n.arcs.length cA, .slice (some ⟨H1, 0, none⟩) n.nodes.toNat n.nodes.toNat, .slice (some ⟨H2, 0, none⟩) n.nodes.toNat n.nodes.toNat]) ∧ AtN w' aA n.arcs ∧ (∀ x, aA = some x → w.heap.size ≤ x.block ∧ x.block < w'.heap.size) ∧ TabN w.heap.size w' H1 n.nodes.toNat D1 E1 (fun v => inArcsN n v) ∧ TabN w.heap.size w' H2 n.nodes.toNat D2 E2 (fun v => outArcsN n v) ∧ Below w.heap.size w w'
theorem TabN.mono {B B' : Nat} {w : World} {H N : Nat} {D : Nat → Option Addr} {E : Nat → Nat} {Y : Nat → List Int} (h : TabN B w H N D E Y) (hB : B' ≤ B) : TabN B' w H N D E Y := ⟨fun j hj => (h.own j hj).mono hB, h.long, h.dd, h.dt, Nat.le_trans hB h.low⟩
set_option maxRecDepth 100000 in
set_option maxHeartbeats 16000000 in
theorem wired_any (n : NN) (a : Option Addr) (c : Nat) (w : World) (hS : SoundN n) (h : AtN w a n.arcs) (hna : a = none → n.arcs.length = 0 ∧ c = 0) : Calls Tryz.prog 82 #[.agg #[.int .i64 n.nodes, .slice a n.arcs.length c]] w (WiredE n w) := by
  have hnn := nodes_nat hS
  obtain ⟨WE, hWE⟩ : ∃ R, WiredE n w = R := ⟨_, rfl⟩
  rw [hWE]
  have HWE := hiddenN hWE
  clear hWE
  obtain ⟨m, L⟩ := n
  simp only at *
  obtain ⟨N, hN⟩ : ∃ N, m.toNat = N := ⟨_, rfl⟩
  rw [hN] at hnn
  obtain ⟨rfl⟩ : m = (N : Int) := hnn.1.symm
  have hmost := hS.most
  have HSA := hiddenN hS.arcs
  simp only at hmost HSA
  obtain ⟨len, hlen⟩ : ∃ q, L.length = q := ⟨_, rfl⟩
  rw [hlen] at hmost hna HSA ⊢
  have HL : Hid (L.length = len) := hlen
  have b0 := (Below.refl w.heap.size w).alloc (Nat.le_refl _) (.cells #[.int .i64 (N : Int), .slice a len c] 24)
  have b1 := b0.alloc b0.size (.cells #[.slice none 0 0, .slice none 0 0, .slice none 0 0] 121)
  have g0 := (blkA_new 24 w #[.int .i64 (N : Int), .slice a len c]).below ((Below.refl _ _).alloc (Nat.le_refl _) (.cells #[.slice none 0 0, .slice none 0 0, .slice none 0 0] 121))
  have G1 := hiddenN (blkA_new 121 (w.alloc (.cells #[.int .i64 (N : Int), .slice a len c] 24)) #[.slice none 0 0, .slice none 0 0, .slice none 0 0])
  have y0 := g0.cell (k := 0) rfl
  have y1 := g0.cell (k := 1) rfl
  simp only [List.getElem_toArray, List.getElem_cons_zero, List.getElem_cons_succ] at y0 y1
  have B1 := hiddenN b1
  have HA := hiddenN h
  have HM := hiddenN (run_make_row' (P := Tryz.prog) 54 25 (.slice none 0 0) 24 Tryz.underlying54 Tryz.infoSN rfl .i64 .i64 N (by omega) (by omega))
  have hsz : (w.alloc (.cells #[.int .i64 (N : Int), .slice a len c] 24)).heap.size = w.heap.size + 1 := World.size_alloc _ _
  rw [hsz] at G1
  have G0 := hiddenN g0
  clear b0 b1 g0 h
  go_enter Tryz.func82, Tryz.ntmps82
  go_upto_region 1 with fail
  generalize (w.alloc (.cells #[.int .i64 (N : Int), .slice a len c] 24)).alloc (.cells #[.slice none 0 0, .slice none 0 0, .slice none 0 0] 121) = V0 at *
  have CL : Hid (∀ U, Below V0.heap.size V0 U → Calls Tryz.prog 107 #[.slice a len c] U (ArcsEnd U L)) := fun U hb => cloneA_any a L len c U HL.out hmost hna (HA.out.below (B1.out.trans (hb.mono B1.out.size)))
  refine wp_region_gho [2, 5, 8, 10, 11] (fun y d i u z => match i with
      | 0 => z = .pointer (some ⟨w.heap.size, 1, none⟩)
      | 1 => z = .slice a len c
      | 2 => (d 2 = true ∧ z = .slice y.a len y.c)
      | 3 => z = .pointer (some ⟨w.heap.size, 0, none⟩)
      | 4 => z = .int .i64 (N : Int)
      | 5 => (d 5 = true ∧ z = .slice (some ⟨y.F 5, 0, none⟩) N N)
      | 6 => z = .pointer (some ⟨w.heap.size, 0, none⟩)
      | 7 => z = .int .i64 (N : Int)
      | 8 => (d 8 = true ∧ z = .slice (some ⟨y.F 8, 0, none⟩) N N)
      | 9 => ((d 2 = true ∧ d 5 = true ∧ d 8 = true) ∧ z = .agg #[.slice y.a len y.c, .slice (some ⟨y.F 5, 0, none⟩) N N, .slice (some ⟨y.F 8, 0, none⟩) N N])
      | 10 => (d 10 = true ∧ z = .pointer (some ⟨y.F 10, 0, none⟩))
      | 11 => True
      | _ => True) (fun y d u => CW V0 L N y d u) (⟨none, 0, fun _ => 0⟩) (by kernel_rfl) (by kernel_rfl) (by kernel_rfl) ?_ ?_ ?_ ?_ ?_ ?_ (by kernel_rfl)
  · intro y d i w v w' h hb
    match i, h with
    | 0, h => exact h
    | 1, h => exact h
    | 2, h => exact h
    | 3, h => exact h
    | 4, h => exact h
    | 5, h => exact h
    | 6, h => exact h
    | 7, h => exact h
    | 8, h => exact h
    | 9, h => exact h
    | 10, h => exact h
    | 11, h => exact h
    | _ + 12, _ => trivial
  · intro y d u u' h hb
    exact CW.later h hb
  · exact CW.start _ _ _ _
  · intro y d i o ρ w' hm ho hf hg hC hcs hfs hfr hdep
    match i, hm, ho, hf, hg, hfr, hdep with
    | 0, _, ho, hf, hg, hfr, hdep =>
      simp only [gTA, gCZ, gSI] at ho
      subst ho
      refine ⟨fun _ => ?_, fun hw => absurd (show true = false from hw) (by decide)⟩
      have ts : ρ (.tmp 1) = .pointer (some ⟨w.heap.size, 0, none⟩) := hfr 1 (by kernel_rfl)
      simp [go_sem, ts]
      exact ⟨Below.refl _ _, rfl⟩
    | 1, _, ho, hf, hg, hfr, hdep =>
      simp only [gTA, gCZ, gCS, gSI] at ho
      subst ho
      refine ⟨fun _ => ?_, fun hw => absurd (show true = false from hw) (by decide)⟩
      have cc : w'.cell? ⟨w.heap.size, 1, none⟩ = some (.slice a len c) := cellN_later hC.bel y1
      have d0 : ρ (.tmp 6) = .pointer (some ⟨w.heap.size, 1, none⟩) := hdep 0 6 (by kernel_rfl) (by kernel_rfl)
      simp [go_sem, d0, cc]
      exact ⟨Below.refl _ _, rfl⟩
    | 2, hm, _, _, _, _, _ => exact absurd hm (by decide)
    | 3, _, ho, hf, hg, hfr, hdep =>
      simp only [gTA, gCZ, gCS, gSI] at ho
      subst ho
      refine ⟨fun _ => ?_, fun hw => absurd (show true = false from hw) (by decide)⟩
      have ts : ρ (.tmp 1) = .pointer (some ⟨w.heap.size, 0, none⟩) := hfr 1 (by kernel_rfl)
      simp [go_sem, ts]
      exact ⟨Below.refl _ _, rfl⟩
    | 4, _, ho, hf, hg, hfr, hdep =>
      simp only [gTA, gCZ, gCS, gSI] at ho
      subst ho
      refine ⟨fun _ => ?_, fun hw => absurd (show true = false from hw) (by decide)⟩
      have cc : w'.cell? ⟨w.heap.size, 0, none⟩ = some (.int .i64 (N : Int)) := cellN_later hC.bel y0
      have d0 : ρ (.tmp 9) = .pointer (some ⟨w.heap.size, 0, none⟩) := hdep 3 9 (by kernel_rfl) (by kernel_rfl)
      simp [go_sem, d0, cc]
      exact ⟨Below.refl _ _, rfl⟩
    | 5, hm, _, _, _, _, _ => exact absurd hm (by decide)
    | 6, _, ho, hf, hg, hfr, hdep =>
      simp only [gTA, gCZ, gCS, gSI] at ho
      subst ho
      refine ⟨fun _ => ?_, fun hw => absurd (show true = false from hw) (by decide)⟩
      have ts : ρ (.tmp 1) = .pointer (some ⟨w.heap.size, 0, none⟩) := hfr 1 (by kernel_rfl)
      simp [go_sem, ts]
      exact ⟨Below.refl _ _, rfl⟩
    | 7, _, ho, hf, hg, hfr, hdep =>
      simp only [gTA, gCZ, gCS, gSI] at ho
      subst ho
      refine ⟨fun _ => ?_, fun hw => absurd (show true = false from hw) (by decide)⟩
      have cc : w'.cell? ⟨w.heap.size, 0, none⟩ = some (.int .i64 (N : Int)) := cellN_later hC.bel y0
      have d0 : ρ (.tmp 12) = .pointer (some ⟨w.heap.size, 0, none⟩) := hdep 6 12 (by kernel_rfl) (by kernel_rfl)
      simp [go_sem, d0, cc]
      exact ⟨Below.refl _ _, rfl⟩
    | 8, hm, _, _, _, _, _ => exact absurd hm (by decide)
    | 9, _, ho, hf, hg, hfr, hdep =>
      simp only [gTA, gCZ, gCS, gSI] at ho
      subst ho
      refine ⟨fun _ => ?_, fun hw => absurd (show true = false from hw) (by decide)⟩
      have t2 : d 2 = true ∧ ρ (.tmp 8) = .slice y.a len y.c := hdep 2 8 (by kernel_rfl) (by kernel_rfl)
      have t5 : d 5 = true ∧ ρ (.tmp 11) = .slice (some ⟨y.F 5, 0, none⟩) N N := hdep 5 11 (by kernel_rfl) (by kernel_rfl)
      have t8 : d 8 = true ∧ ρ (.tmp 14) = .slice (some ⟨y.F 8, 0, none⟩) N N := hdep 8 14 (by kernel_rfl) (by kernel_rfl)
      obtain ⟨q2, t2⟩ := t2
      obtain ⟨q5, t5⟩ := t5
      obtain ⟨q8, t8⟩ := t8
      simp [go_sem, t2, t5, t8]
      exact ⟨Below.refl _ _, ⟨q2, q5, q8⟩, rfl⟩
    | 10, hm, _, _, _, _, _ => exact absurd hm (by decide)
    | 11, hm, _, _, _, _, _ => exact absurd hm (by decide)
    | n + 12, _, ho, _, _, _, _ => simp at ho
  · intro y d i o ρ w' hm ho h0 hf hg hC hcs hfs hfr hdep
    match i, hm, ho, h0, hf, hg, hfr, hdep with
    | 0, hm, _, _, _, _, _, _ => exact absurd hm (by decide)
    | 1, hm, _, _, _, _, _, _ => exact absurd hm (by decide)
    | 2, _, ho, h0, hf, hg, hfr, hdep =>
      simp only [gTA, gCZ, gCS, gSI] at ho
      subst ho
      have t0 : ρ (.tmp 7) = .slice a len c := hdep 1 7 (by kernel_rfl) (by kernel_rfl)
      have h11 : d 11 = false := hf 11 (by decide) (by kernel_rfl)
      have CLw := CL.out w' hC.bel
      refine ⟨rfl, ?_⟩
      simp [go_sem, markUpon, t0, hfs]
      refine CLw.mono ?_
      rintro e w'' ⟨a', c', rfl, q1, q2, q3⟩
      rw [HL.out]
      refine ⟨_, rfl, ⟨a', c', y.F⟩, hC.m2 h11 q1 q2 q3, ⟨doneAt_eq _ _, rfl⟩, ?_⟩
      intro j t hj hs
      match j, hs with
      | 0, hs => exact hs
      | 1, hs => exact hs
      | 2, hs => exact absurd hs.1 (by rw [h0]; decide)
      | 3, hs => exact hs
      | 4, hs => exact hs
      | 5, hs => exact hs
      | 6, hs => exact hs
      | 7, hs => exact hs
      | 8, hs => exact hs
      | 9, hs => exact absurd hs.1.1 (by rw [h0]; decide)
      | 10, hs => exact hs
      | 11, _ => trivial
      | _ + 12, _ => trivial
    | 3, hm, _, _, _, _, _, _ => exact absurd hm (by decide)
    | 4, hm, _, _, _, _, _, _ => exact absurd hm (by decide)
    | 5, _, ho, h0, hf, hg, hfr, hdep =>
      simp only [gTA, gCZ, gCS, gSI] at ho
      subst ho
      have t0 : ρ (.tmp 10) = .int .i64 (N : Int) := hdep 4 10 (by kernel_rfl) (by kernel_rfl)
      have h11 : d 11 = false := hf 11 (by decide) (by kernel_rfl)
      refine ⟨rfl, ?_⟩
      simp [go_sem, markUpon, t0, HM.out]
      refine ⟨⟨y.a, y.c, upd y.F 5 w'.heap.size⟩, CW.made 5 _ (by unfold is3; decide) hC h0 h11 (fun _ => World.rowIs_made w' (.slice none 0 0) N 25) (fun _ => World.rowIs_made w' (.slice none 0 0) N 25) (fun e => absurd e (by decide)), ⟨doneAt_eq _ _, by simp only [upd_eq]⟩, ?_⟩
      intro j t hj hs
      match j, hs with
      | 0, hs => exact hs
      | 1, hs => exact hs
      | 2, hs => exact ⟨(doneAt_ne d (by decide)).trans hs.1, hs.2⟩
      | 3, hs => exact hs
      | 4, hs => exact hs
      | 5, hs => exact absurd hs.1 (by rw [h0]; decide)
      | 6, hs => exact hs
      | 7, hs => exact hs
      | 8, hs => exact ⟨(doneAt_ne d (by decide)).trans hs.1, by simp only [upd_ne (show (8 : Nat) ≠ 5 by decide)]; exact hs.2⟩
      | 9, hs => exact absurd hs.1.2.1 (by rw [h0]; decide)
      | 10, hs => exact ⟨(doneAt_ne d (by decide)).trans hs.1, by simp only [upd_ne (show (10 : Nat) ≠ 5 by decide)]; exact hs.2⟩
      | 11, _ => trivial
      | _ + 12, _ => trivial
    | 6, hm, _, _, _, _, _, _ => exact absurd hm (by decide)
    | 7, hm, _, _, _, _, _, _ => exact absurd hm (by decide)
    | 8, _, ho, h0, hf, hg, hfr, hdep =>
      simp only [gTA, gCZ, gCS, gSI] at ho
      subst ho
      have t0 : ρ (.tmp 13) = .int .i64 (N : Int) := hdep 7 13 (by kernel_rfl) (by kernel_rfl)
      have h11 : d 11 = false := hf 11 (by decide) (by kernel_rfl)
      refine ⟨rfl, ?_⟩
      simp [go_sem, markUpon, t0, HM.out]
      refine ⟨⟨y.a, y.c, upd y.F 8 w'.heap.size⟩, CW.made 8 _ (by unfold is3; decide) hC h0 h11 (fun _ => World.rowIs_made w' (.slice none 0 0) N 25) (fun _ => World.rowIs_made w' (.slice none 0 0) N 25) (fun e => absurd e (by decide)), ⟨doneAt_eq _ _, by simp only [upd_eq]⟩, ?_⟩
      intro j t hj hs
      match j, hs with
      | 0, hs => exact hs
      | 1, hs => exact hs
      | 2, hs => exact ⟨(doneAt_ne d (by decide)).trans hs.1, hs.2⟩
      | 3, hs => exact hs
      | 4, hs => exact hs
      | 5, hs => exact ⟨(doneAt_ne d (by decide)).trans hs.1, by simp only [upd_ne (show (5 : Nat) ≠ 8 by decide)]; exact hs.2⟩
      | 6, hs => exact hs
      | 7, hs => exact hs
      | 8, hs => exact absurd hs.1 (by rw [h0]; decide)
      | 9, hs => exact absurd hs.1.2.2 (by rw [h0]; decide)
      | 10, hs => exact ⟨(doneAt_ne d (by decide)).trans hs.1, by simp only [upd_ne (show (10 : Nat) ≠ 8 by decide)]; exact hs.2⟩
      | 11, _ => trivial
      | _ + 12, _ => trivial
    | 9, hm, _, _, _, _, _, _ => exact absurd hm (by decide)
    | 10, _, ho, h0, hf, hg, hfr, hdep =>
      simp only [gTA, gCZ, gCS, gSI] at ho
      subst ho
      have h11 : d 11 = false := hf 11 (by decide) (by kernel_rfl)
      refine ⟨rfl, ?_⟩
      simp [go_sem, markUpon]
      refine ⟨⟨y.a, y.c, upd y.F 10 w'.heap.size⟩, CW.made 10 _ (by unfold is3; decide) hC h0 h11 (fun e => absurd e (by decide)) (fun e => absurd e (by decide)) (fun _ => blkA_new 121 w' _), ⟨doneAt_eq _ _, by simp only [upd_eq]⟩, ?_⟩
      intro j t hj hs
      match j, hs with
      | 0, hs => exact hs
      | 1, hs => exact hs
      | 2, hs => exact ⟨(doneAt_ne d (by decide)).trans hs.1, hs.2⟩
      | 3, hs => exact hs
      | 4, hs => exact hs
      | 5, hs => exact ⟨(doneAt_ne d (by decide)).trans hs.1, by simp only [upd_ne (show (5 : Nat) ≠ 10 by decide)]; exact hs.2⟩
      | 6, hs => exact hs
      | 7, hs => exact hs
      | 8, hs => exact ⟨(doneAt_ne d (by decide)).trans hs.1, by simp only [upd_ne (show (8 : Nat) ≠ 10 by decide)]; exact hs.2⟩
      | 9, hs => exact ⟨⟨(doneAt_ne d (by decide)).trans hs.1.1, (doneAt_ne d (by decide)).trans hs.1.2.1, (doneAt_ne d (by decide)).trans hs.1.2.2⟩, by simp only [upd_ne (show (5 : Nat) ≠ 10 by decide), upd_ne (show (8 : Nat) ≠ 10 by decide)]; exact hs.2⟩
      | 10, hs => exact absurd hs.1 (by rw [h0]; decide)
      | 11, _ => trivial
      | _ + 12, _ => trivial
    | 11, _, ho, h0, hf, hg, hfr, hdep =>
      simp only [gTA, gCZ, gCS, gSI] at ho
      subst ho
      have t10 : d 10 = true ∧ ρ (.tmp 3) = .pointer (some ⟨y.F 10, 0, none⟩) := hdep 10 3 (by kernel_rfl) (by kernel_rfl)
      have t9 : (d 2 = true ∧ d 5 = true ∧ d 8 = true) ∧ ρ (.tmp 15) = .agg #[.slice y.a len y.c, .slice (some ⟨y.F 5, 0, none⟩) N N, .slice (some ⟨y.F 8, 0, none⟩) N N] := hdep 9 15 (by kernel_rfl) (by kernel_rfl)
      have hbk := hC.t10 t10.1
      rw [h0, if_neg (by decide)] at hbk
      refine ⟨rfl, mark_storeN 121 (.tmp 3) (.tmp 15) rfl (y.F 10) 121 _ _ t10.2 t9.2 hbk sizWir rfl rfl ?_⟩
      intro w'' hs1 hb1
      refine ⟨y, hC.m11 t9.1.1 t9.1.2.1 t9.1.2.2 t10.1 hb1 (by rw [HL.out]; exact hs1), fun h => absurd rfl h, ?_⟩
      intro j t hj hs
      match j, hs with
      | 0, hs => exact hs
      | 1, hs => exact hs
      | 2, hs => exact ⟨(doneAt_ne d (by decide)).trans hs.1, hs.2⟩
      | 3, hs => exact hs
      | 4, hs => exact hs
      | 5, hs => exact ⟨(doneAt_ne d (by decide)).trans hs.1, hs.2⟩
      | 6, hs => exact hs
      | 7, hs => exact hs
      | 8, hs => exact ⟨(doneAt_ne d (by decide)).trans hs.1, hs.2⟩
      | 9, hs => exact ⟨⟨(doneAt_ne d (by decide)).trans hs.1.1, (doneAt_ne d (by decide)).trans hs.1.2.1, (doneAt_ne d (by decide)).trans hs.1.2.2⟩, hs.2⟩
      | 10, hs => exact ⟨(doneAt_ne d (by decide)).trans hs.1, hs.2⟩
      | 11, _ => trivial
      | _ + 12, _ => trivial
    | n + 12, _, ho, _, _, _, _, _ => simp at ho
  · intro y9 V w9 hC9 hS
    have e10 : V 10 = .pointer (some ⟨y9.F 10, 0, none⟩) := (hS 10 (by decide) (by intro h; cases h)).2
    simp only [puts, put_none, e10]
    simp only [Act.put, List.setIfInBounds_toArray, List.set_cons_zero, List.set_cons_succ]
    clear hS e10
    have i5 : is3 5 := .inl rfl
    have i8 : is3 8 := .inr (.inl rfl)
    have i10 : is3 10 := .inr (.inr rfl)
    obtain ⟨q1, q2⟩ := hC9.arcs rfl
    have q5 := hC9.rng 5 rfl i5
    have q8 := hC9.rng 8 rfl i8
    have q10 := hC9.rng 10 rfl i10
    have x58 := hC9.dis 5 8 rfl rfl i5 i8 (by decide)
    have x5 := hC9.dis 5 10 rfl rfl i5 i10 (by decide)
    have x8 := hC9.dis 8 10 rfl rfl i8 i10 (by decide)
    have k5 := hC9.t5 rfl
    have k8 := hC9.t8 rfl
    have k10 := hC9.t10 rfl
    rw [if_pos (by rfl)] at k10
    have ofn : ∀ {H k : Nat}, ofT N H (fun _ => none) k → k = H := fun hk => by
      rcases hk with h1 | ⟨j, x, -, h2, -⟩
      · exact h1
      · cases h2
    have hB9 := hC9.bel.size
    have BV := hiddenN hC9.bel
    have LW0 : LW V0.heap.size V0 w9 L N (y9.F 10) (y9.F 5) (y9.F 8) y9.c y9.a (fun _ => none) (fun _ => none) (fun _ => 0) (fun _ => 0) (fun v => posU (toB (v : Int)) L 0) (fun v => posU (fromB (v : Int)) L 0) :=
      ⟨tabN_start q5.1 k5, tabN_start q8.1 k8, fun k h1 h2 => x58 ((ofn h1).symm.trans (ofn h2)), fun k h1 => ⟨by rw [ofn h1]; exact x5, fun x hx => by rw [ofn h1]; exact (q2 x hx).2.2 5 rfl i5⟩, fun k h1 => ⟨by rw [ofn h1]; exact x8, fun x hx => by rw [ofn h1]; exact (q2 x hx).2.2 8 rfl i8⟩, q1, fun x hx => ⟨(q2 x hx).1, (q2 x hx).2.1⟩, k10, hC9.bel⟩
    have HW0 := hiddenN LW0
    clear hC9 q1 q2 q5 q8 q10 x58 x5 x8 k5 k8 k10 LW0
    generalize y9.F 10 = P at *
    generalize y9.F 5 = H1 at *
    generalize y9.F 8 = H2 at *
    generalize y9.a = aA at *
    generalize y9.c = cA at *
    have g1 := (G0.out.below BV.out).cell (k := 1) rfl
    simp only [List.getElem_toArray, List.getElem_cons_zero, List.getElem_cons_succ] at g1
    clear y0 y1 HM CL
    go_wp2
    go_loopg [19] len (fun gk v wr => ∃ (q : Nat) (D1 D2 : Nat → Option Addr) (E1 E2 : Nat → Nat), q ≤ len ∧ gk = len - q ∧ v = .int .i64 (q : Int) ∧ LW V0.heap.size V0 wr L N P H1 H2 cA aA D1 D2 E1 E2 (fun v => posU (toB (v : Int)) L q) (fun v => posU (fromB (v : Int)) L q))
    case atStart => exact ⟨0, _, _, _, _, Nat.zero_le _, rfl, rfl, HW0.out⟩
    case round =>
      clear HW0 hB9 BV g1
      obtain ⟨q, D1, D2, E1, E2, hq, rfl, rfl, hW⟩ := hrel
      have HW := hiddenN hW
      clear hW
      have BR := hiddenN (B1.out.trans (HW.out.bel.mono B1.out.size))
      by_cases hlt : q < len
      · have hki : (q : Int) < (len : Int) := by omega
        rcases HA.out.below BR.out with e | ⟨b, off, rfl, hc⟩
        · have := HL.out; rw [e] at this; simp at this; omega
        obtain ⟨c0, c1, c2, c3, c4⟩ := hc q (by have := HL.out; omega)
        have SA := HSA.out q hlt
        obtain ⟨tv, etv⟩ : ∃ k : Nat, (nthNa L q).t = (k : Int) := ⟨(nthNa L q).t.toNat, by have := SA.t; omega⟩
        obtain ⟨fv, efv⟩ : ∃ k : Nat, (nthNa L q).f = (k : Int) := ⟨(nthNa L q).f.toNat, by have := SA.f; omega⟩
        have htv : tv < N := by have := SA.t; omega
        have hfv : fv < N := by have := SA.f; omega
        have T1 := hiddenN (toB_step (A := L) (q := q) etv)
        have T2 := hiddenN (fromB_step (A := L) (q := q) efv)
        rw [etv] at c1
        rw [efv] at c0
        generalize (nthNa L q).g = gg at *
        generalize (nthNa L q).k = kk at *
        generalize (nthNa L q).s = ss at *
        clear hc SA etv efv
        go_upto_region 5 with fail
        have bc := (Below.refl wr.heap.size wr).alloc (Nat.le_refl _) (.cells #[.int .i64 (fv : Int), .int .i64 (tv : Int), .int .i64 gg, .int .i64 kk, .int .i64 ss] 53)
        have XA1 := hiddenN (blkA_new 53 wr #[.int .i64 (fv : Int), .int .i64 (tv : Int), .int .i64 gg, .int .i64 kk, .int .i64 ss])
        have hVw := HW.out.bel.size
        have LX1 := hiddenN (HW.out.later bc hVw)
        have ltA : ∀ k, ofT N H1 D1 k → k < wr.heap.size := fun k hk => (HW.out.t1.lt hk).2
        have ltB : ∀ k, ofT N H2 D2 k → k < wr.heap.size := fun k hk => (HW.out.t2.lt hk).2
        have LTA := hiddenN ltA
        have LTB := hiddenN ltB
        have hab : wr.heap.size < (wr.alloc (.cells #[.int .i64 (fv : Int), .int .i64 (tv : Int), .int .i64 gg, .int .i64 kk, .int .i64 ss] 53)).heap.size := by rw [World.size_alloc]; omega
        have LB1 : Hid (V0.heap.size ≤ (wr.alloc (.cells #[.int .i64 (fv : Int), .int .i64 (tv : Int), .int .i64 gg, .int .i64 kk, .int .i64 ss] 53)).heap.size) := Nat.le_trans hVw bc.size
        obtain ⟨ab, hab'⟩ : ∃ ab, wr.heap.size = ab := ⟨_, rfl⟩
        rw [hab'] at XA1 LTA LTB hab ⊢
        generalize wr.alloc (.cells #[.int .i64 (fv : Int), .int .i64 (tv : Int), .int .i64 gg, .int .i64 kk, .int .i64 ss] 53) = V1 at *
        have CT1 := LX1.out.t1.long.cell htv
        have OW1 := hiddenN (LX1.out.t1.own tv htv)
        have NP1 : Hid (∀ y, D1 tv = some y → y.block ≠ P) := fun y hy => (LX1.out.p1 _ (.inr ⟨tv, y, htv, hy, rfl⟩)).1
        have NA1 : Hid (∀ y, D1 tv = some y → y.block ≠ ab) := fun y hy e => by have := LTA.out _ (.inr ⟨tv, y, htv, hy, rfl⟩); omega
        have hpl : (posU (toB (tv : Int)) L q).length ≤ 1000000 := by have := posU_len (toB (tv : Int)) L q; omega
        clear bc c0 c1 c2 c3 c4 hab' ltA ltB
        refine wp_region_gen [12, 14] (fun d i u z => match i with
            | 0 => z = .pointer (some ⟨P, 1, none⟩)
            | 1 => z = .slice (some ⟨H1, 0, none⟩) N N
            | 2 => z = .pointer (some ⟨ab, 1, none⟩)
            | 3 => z = .int .i64 (tv : Int)
            | 4 => z = .pointer (some ⟨P, 1, none⟩)
            | 5 => z = .slice (some ⟨H1, 0, none⟩) N N
            | 6 => z = .pointer (some ⟨ab, 1, none⟩)
            | 7 => z = .int .i64 (tv : Int)
            | 8 => z = .pointer (some ⟨H1, tv, none⟩)
            | 9 => z = .slice (D1 tv) (posU (toB (tv : Int)) L q).length (E1 tv)
            | 10 => z = .int .i64 (q : Int)
            | 11 => (d 12 = false → ∃ g, z = .slice (some ⟨g, 0, none⟩) 1 1 ∧ u.cell? ⟨g, 0, none⟩ = some (.int .i64 (q : Int)))
            | 12 => (d 12 = true ∧ (d 14 = false → ∃ dd cc, z = .slice dd ((posU (toB (tv : Int)) L q).length + 1) cc ∧ GrwN V0.heap.size V1 (D1 tv) ((posU (toB (tv : Int)) L q) ++ [(q : Int)]) u dd cc))
            | 13 => z = .pointer (some ⟨H1, tv, none⟩)
            | 14 => True
            | _ => True) (fun d u => (d 12 = false → Below V1.heap.size V1 u) ∧ (∀ k, k < V1.heap.size → (∀ y, D1 tv = some y → y.block ≠ k) → d 14 = false → u.heap[k]? = V1.heap[k]?) ∧ V1.heap.size ≤ u.heap.size ∧ (d 14 = true → ∃ dd cc, FinN V0.heap.size V1 H1 N tv D1 E1 (fun v => posU (toB (v : Int)) L q) ((posU (toB (tv : Int)) L q) ++ [(q : Int)]) u dd cc) ∧ (u.os = V1.os ∧ u.tape = V1.tape ∧ u.output = V1.output)) (by kernel_rfl) (by kernel_rfl) (by kernel_rfl) ?_ ?_ ?_ ?_ ?_ ?_ (by kernel_rfl)
        · intro d i w v w' h hb
          match i, h with
          | 0, h => exact h
          | 1, h => exact h
          | 2, h => exact h
          | 3, h => exact h
          | 4, h => exact h
          | 5, h => exact h
          | 6, h => exact h
          | 7, h => exact h
          | 8, h => exact h
          | 9, h => exact h
          | 10, h => exact h
          | 11, h => exact fun e => by obtain ⟨g, h1, h2⟩ := h e; exact ⟨g, h1, cellN_later hb h2⟩
          | 12, h => exact ⟨h.1, fun e => by obtain ⟨dd, cc, h1, h2⟩ := h.2 e; exact ⟨dd, cc, h1, h2.later hb⟩⟩
          | 13, h => exact h
          | 14, h => exact h
          | _ + 15, _ => trivial
        · intro d u u' h hb
          exact ⟨fun e => (h.1 e).trans (hb.mono (h.1 e).size), fun k hk hn e => (hb.block k (Nat.lt_of_lt_of_le hk h.2.2.1)).trans (h.2.1 k hk hn e), Nat.le_trans h.2.2.1 hb.size, fun e => by obtain ⟨dd, cc, hF⟩ := h.2.2.2.1 e; exact ⟨dd, cc, hF.later hb⟩, hb.os.trans h.2.2.2.2.1, hb.tape.trans h.2.2.2.2.2.1, hb.output.trans h.2.2.2.2.2.2⟩
        · exact ⟨fun _ => Below.refl _ _, fun _ _ _ _ => rfl, Nat.le_refl _, fun e => absurd e (by decide), rfl, rfl, rfl⟩
        · intro d i o ρ w' hm ho hf hg hC hcs hfs hfr hdep
          match i, hm, ho, hf, hg, hfr, hdep with
          | 0, _, ho, hf, hg, hfr, hdep =>
            simp only [gTA, gCZ, gSI] at ho
            subst ho
            refine ⟨fun _ => ?_, fun hw => absurd (show true = false from hw) (by decide)⟩
            have ts : ρ (.tmp 3) = .pointer (some ⟨P, 0, none⟩) := hfr 3 (by kernel_rfl)
            simp [go_sem, ts]
            exact ⟨Below.refl _ _, rfl⟩
          | 1, _, ho, hf, hg, hfr, hdep =>
            simp only [gTA, gCZ, gCS, gSI] at ho
            subst ho
            refine ⟨fun _ => ?_, fun hw => absurd (show true = false from hw) (by decide)⟩
            have cc : w'.cell? ⟨P, 1, none⟩ = some (.slice (some ⟨H1, 0, none⟩) N N) := cell_block (hC.2.1 P LX1.out.blk.lt NP1.out (by first | exact hf 14 (by decide) (by kernel_rfl) | assumption)) (LX1.out.blk.cell rfl)
            have d0 : ρ (.tmp 24) = .pointer (some ⟨P, 1, none⟩) := hdep 0 24 (by kernel_rfl) (by kernel_rfl)
            simp [go_sem, d0, cc]
            exact ⟨Below.refl _ _, rfl⟩
          | 2, _, ho, hf, hg, hfr, hdep =>
            simp only [gTA, gCZ, gCS, gSI] at ho
            subst ho
            refine ⟨fun _ => ?_, fun hw => absurd (show true = false from hw) (by decide)⟩
            have ts : ρ (.tmp 5) = .pointer (some ⟨ab, 0, none⟩) := hfr 5 (by kernel_rfl)
            simp [go_sem, ts]
            exact ⟨Below.refl _ _, rfl⟩
          | 3, _, ho, hf, hg, hfr, hdep =>
            simp only [gTA, gCZ, gCS, gSI] at ho
            subst ho
            refine ⟨fun _ => ?_, fun hw => absurd (show true = false from hw) (by decide)⟩
            have cc : w'.cell? ⟨ab, 1, none⟩ = some (.int .i64 (tv : Int)) := cell_block (hC.2.1 ab XA1.out.lt NA1.out (by first | exact hf 14 (by decide) (by kernel_rfl) | assumption)) (XA1.out.cell rfl)
            have d0 : ρ (.tmp 26) = .pointer (some ⟨ab, 1, none⟩) := hdep 2 26 (by kernel_rfl) (by kernel_rfl)
            simp [go_sem, d0, cc]
            exact ⟨Below.refl _ _, rfl⟩
          | 4, _, ho, hf, hg, hfr, hdep =>
            simp only [gTA, gCZ, gCS, gSI] at ho
            subst ho
            refine ⟨fun _ => ?_, fun hw => absurd (show true = false from hw) (by decide)⟩
            have ts : ρ (.tmp 3) = .pointer (some ⟨P, 0, none⟩) := hfr 3 (by kernel_rfl)
            simp [go_sem, ts]
            exact ⟨Below.refl _ _, rfl⟩
          | 5, _, ho, hf, hg, hfr, hdep =>
            simp only [gTA, gCZ, gCS, gSI] at ho
            subst ho
            refine ⟨fun _ => ?_, fun hw => absurd (show true = false from hw) (by decide)⟩
            have cc : w'.cell? ⟨P, 1, none⟩ = some (.slice (some ⟨H1, 0, none⟩) N N) := cell_block (hC.2.1 P LX1.out.blk.lt NP1.out (by first | exact hf 14 (by decide) (by kernel_rfl) | assumption)) (LX1.out.blk.cell rfl)
            have d0 : ρ (.tmp 28) = .pointer (some ⟨P, 1, none⟩) := hdep 4 28 (by kernel_rfl) (by kernel_rfl)
            simp [go_sem, d0, cc]
            exact ⟨Below.refl _ _, rfl⟩
          | 6, _, ho, hf, hg, hfr, hdep =>
            simp only [gTA, gCZ, gCS, gSI] at ho
            subst ho
            refine ⟨fun _ => ?_, fun hw => absurd (show true = false from hw) (by decide)⟩
            have ts : ρ (.tmp 5) = .pointer (some ⟨ab, 0, none⟩) := hfr 5 (by kernel_rfl)
            simp [go_sem, ts]
            exact ⟨Below.refl _ _, rfl⟩
          | 7, _, ho, hf, hg, hfr, hdep =>
            simp only [gTA, gCZ, gCS, gSI] at ho
            subst ho
            refine ⟨fun _ => ?_, fun hw => absurd (show true = false from hw) (by decide)⟩
            have cc : w'.cell? ⟨ab, 1, none⟩ = some (.int .i64 (tv : Int)) := cell_block (hC.2.1 ab XA1.out.lt NA1.out (by first | exact hf 14 (by decide) (by kernel_rfl) | assumption)) (XA1.out.cell rfl)
            have d0 : ρ (.tmp 30) = .pointer (some ⟨ab, 1, none⟩) := hdep 6 30 (by kernel_rfl) (by kernel_rfl)
            simp [go_sem, d0, cc]
            exact ⟨Below.refl _ _, rfl⟩
          | 8, _, ho, hf, hg, hfr, hdep =>
            simp only [gTA, gCZ, gCS, gSI] at ho
            subst ho
            refine ⟨fun _ => ?_, fun hw => absurd (show true = false from hw) (by decide)⟩
            have d0 : ρ (.tmp 29) = .slice (some ⟨H1, 0, none⟩) N N := hdep 5 29 (by kernel_rfl) (by kernel_rfl)
            have d1 : ρ (.tmp 31) = .int .i64 (tv : Int) := hdep 7 31 (by kernel_rfl) (by kernel_rfl)
            simp [go_sem, d0, d1, htv]
            exact ⟨Below.refl _ _, rfl⟩
          | 9, _, ho, hf, hg, hfr, hdep =>
            simp only [gTA, gCZ, gCS, gSI] at ho
            subst ho
            refine ⟨fun _ => ?_, fun hw => absurd (show true = false from hw) (by decide)⟩
            have h12 : d 12 = false := hf 12 (by decide) (by kernel_rfl)
            have cc : w'.cell? ⟨H1, tv, none⟩ = some (.slice (D1 tv) (posU (toB (tv : Int)) L q).length (E1 tv)) := cellN_later (hC.1 h12) CT1
            have d0 : ρ (.tmp 32) = .pointer (some ⟨H1, tv, none⟩) := hdep 8 32 (by kernel_rfl) (by kernel_rfl)
            simp [go_sem, d0, cc]
            exact ⟨Below.refl _ _, rfl⟩
          | 10, _, ho, hf, hg, hfr, hdep =>
            simp only [gTA, gCZ, gCS, gSI] at ho
            subst ho
            refine ⟨fun _ => ?_, fun hw => absurd (show true = false from hw) (by decide)⟩
            have ts : ρ (.tmp 4) = .int .i64 (q : Int) := hfr 4 (by kernel_rfl)
            simp [go_sem, ts]
            exact ⟨Below.refl _ _, rfl⟩
          | 11, _, ho, hf, hg, hfr, hdep =>
            simp only [gTA, gCZ, gCS, gSI] at ho
            subst ho
            refine ⟨fun _ => ?_, fun hw => absurd (show true = false from hw) (by decide)⟩
            have t0 : ρ (.tmp 34) = .int .i64 (q : Int) := hdep 10 34 (by kernel_rfl) (by kernel_rfl)
            simp [go_sem, t0]
            exact ⟨(Below.refl _ _).alloc (Nat.le_refl _) _, fun _ => ⟨w'.heap.size, rfl, by simp⟩⟩
          | 12, hm, _, _, _, _, _ => exact absurd hm (by decide)
          | 13, _, ho, hf, hg, hfr, hdep =>
            simp only [gTA, gCZ, gCS, gSI] at ho
            subst ho
            refine ⟨fun _ => ?_, fun hw => absurd (show true = false from hw) (by decide)⟩
            have d0 : ρ (.tmp 25) = .slice (some ⟨H1, 0, none⟩) N N := hdep 1 25 (by kernel_rfl) (by kernel_rfl)
            have d1 : ρ (.tmp 27) = .int .i64 (tv : Int) := hdep 3 27 (by kernel_rfl) (by kernel_rfl)
            simp [go_sem, d0, d1, htv]
            exact ⟨Below.refl _ _, rfl⟩
          | 14, hm, _, _, _, _, _ => exact absurd hm (by decide)
          | n + 15, _, ho, _, _, _, _ => simp at ho
        · intro d i o ρ w' hm ho h0 hf hg hC hcs hfs hfr hdep
          match i, hm, ho, h0, hf, hg, hfr, hdep with
          | 0, hm, _, _, _, _, _, _ => exact absurd hm (by decide)
          | 1, hm, _, _, _, _, _, _ => exact absurd hm (by decide)
          | 2, hm, _, _, _, _, _, _ => exact absurd hm (by decide)
          | 3, hm, _, _, _, _, _, _ => exact absurd hm (by decide)
          | 4, hm, _, _, _, _, _, _ => exact absurd hm (by decide)
          | 5, hm, _, _, _, _, _, _ => exact absurd hm (by decide)
          | 6, hm, _, _, _, _, _, _ => exact absurd hm (by decide)
          | 7, hm, _, _, _, _, _, _ => exact absurd hm (by decide)
          | 8, hm, _, _, _, _, _, _ => exact absurd hm (by decide)
          | 9, hm, _, _, _, _, _, _ => exact absurd hm (by decide)
          | 10, hm, _, _, _, _, _, _ => exact absurd hm (by decide)
          | 11, hm, _, _, _, _, _, _ => exact absurd hm (by decide)
          | 12, _, ho, h0, hf, hg, hfr, hdep =>
            simp only [gTA, gCZ, gCS, gSI] at ho
            subst ho
            have t0 : ρ (.tmp 33) = .slice (D1 tv) (posU (toB (tv : Int)) L q).length (E1 tv) := hdep 9 33 (by kernel_rfl) (by kernel_rfl)
            obtain ⟨g, t1, cg⟩ : ∃ g, ρ (.tmp 35) = .slice (some ⟨g, 0, none⟩) 1 1 ∧ w'.cell? ⟨g, 0, none⟩ = some (.int .i64 (q : Int)) := hdep 11 35 (by kernel_rfl) (by kernel_rfl) h0
            have h14 : d 14 = false := hf 14 (by decide) (by kernel_rfl)
            refine ⟨rfl, mark_appN (.tmp 33) (.tmp 35) rfl t0 t1 OW1.out (hC.1 h0) cg (by omega) LB1.out ?_⟩
            intro u9 d9 c9 hG
            refine ⟨⟨fun e => absurd e (by rw [doneAt_eq]; decide), fun k hk hn _ => hG.keep k hk hn, hG.size, fun e => absurd ((doneAt_ne d (by decide)).symm.trans e) (by rw [h14]; decide), ?_⟩, fun _ => ⟨doneAt_eq _ _, fun _ => ⟨d9, c9, rfl, hG⟩⟩, ?_⟩
            · exact ⟨hG.os, hG.tape, hG.output⟩
            intro j t hj hs
            match j, hs with
            | 0, hs => exact hs
            | 1, hs => exact hs
            | 2, hs => exact hs
            | 3, hs => exact hs
            | 4, hs => exact hs
            | 5, hs => exact hs
            | 6, hs => exact hs
            | 7, hs => exact hs
            | 8, hs => exact hs
            | 9, hs => exact hs
            | 10, hs => exact hs
            | 11, hs => exact fun e => absurd e (by rw [doneAt_eq]; decide)
            | 12, hs => exact absurd hs.1 (by rw [h0]; decide)
            | 13, hs => exact hs
            | 14, _ => trivial
            | _ + 15, _ => trivial
          | 13, hm, _, _, _, _, _, _ => exact absurd hm (by decide)
          | 14, _, ho, h0, hf, hg, hfr, hdep =>
            simp only [gTA, gCZ, gCS, gSI] at ho
            subst ho
            have t0 : ρ (.tmp 37) = .pointer (some ⟨H1, tv, none⟩) := hdep 13 37 (by kernel_rfl) (by kernel_rfl)
            have t9 : d 12 = true ∧ (d 14 = false → ∃ dd cc, ρ (.tmp 36) = .slice dd ((posU (toB (tv : Int)) L q).length + 1) cc ∧ GrwN V0.heap.size V1 (D1 tv) ((posU (toB (tv : Int)) L q) ++ [(q : Int)]) w' dd cc) := hdep 12 36 (by kernel_rfl) (by kernel_rfl)
            obtain ⟨dd, cc, e9, hG⟩ := t9.2 h0
            have hk := hG.keep H1 LX1.out.t1.long.lt (fun y hy => LX1.out.t1.dt tv y htv hy)
            have c1 : w'.cell? ⟨H1, tv, none⟩ = some (.slice (D1 tv) (posU (toB (tv : Int)) L q).length (E1 tv)) := cell_block hk CT1
            have f1 : w'.frozen? ⟨H1, tv, none⟩ = false := (LX1.out.t1.long.of_block hk).frozen _
            refine ⟨rfl, markUpon_skip (w' := w'.setCell ⟨H1, tv, none⟩ (.slice dd ((posU (toB (tv : Int)) L q).length + 1) cc)) (by simp [go_sem, t0, e9, c1, f1]) ?_⟩
            have hF := finN_of LX1.out.t1 htv hG
            rw [List.length_append] at hF
            refine ⟨⟨fun e => absurd ((doneAt_ne d (by decide)).symm.trans e) (by rw [t9.1]; decide), fun k hk hn e => absurd e (by rw [doneAt_eq]; decide), by rw [World.size_setCell]; exact hG.size, fun _ => ⟨dd, cc, hF⟩, ⟨hG.os, hG.tape, hG.output⟩⟩, fun h => absurd rfl h, ?_⟩
            intro j t hj hs
            match j, hs with
            | 0, hs => exact hs
            | 1, hs => exact hs
            | 2, hs => exact hs
            | 3, hs => exact hs
            | 4, hs => exact hs
            | 5, hs => exact hs
            | 6, hs => exact hs
            | 7, hs => exact hs
            | 8, hs => exact hs
            | 9, hs => exact hs
            | 10, hs => exact hs
            | 11, hs => exact fun e => absurd ((doneAt_ne d (by decide)).symm.trans e) (by rw [t9.1]; decide)
            | 12, hs => exact ⟨(doneAt_ne d (by decide)).trans hs.1, fun e => absurd e (by rw [doneAt_eq]; decide)⟩
            | 13, hs => exact hs
            | 14, _ => trivial
            | _ + 15, _ => trivial
          | n + 15, _, ho, _, _, _, _, _ => simp at ho
        · intro V w8 hC8 hS
          simp only [puts, put_none]
          simp only [Act.put, List.setIfInBounds_toArray, List.set_cons_zero, List.set_cons_succ]
          clear hS 
          obtain ⟨dd1, cc1, hF1⟩ := hC8.2.2.2.1 rfl
          have LX2 := hiddenN (LX1.out.step1 LB1.out htv hF1)
          have e1 := T1.out
          have XA2 : Hid (BlkA 53 ab w8 #[.int .i64 (fv : Int), .int .i64 (tv : Int), .int .i64 gg, .int .i64 kk, .int .i64 ss]) := XA1.out.keep (hF1.keep ab hab (fun e => by have := LTA.out ab e; omega))
          have LB2 : Hid (V0.heap.size ≤ w8.heap.size) := Nat.le_trans LB1.out hF1.size
          rw [e1] at LX2
          have CT2 := LX2.out.t2.long.cell hfv
          have OW2 := hiddenN (LX2.out.t2.own fv hfv)
          have NP2 : Hid (∀ y, D2 fv = some y → y.block ≠ P) := fun y hy => (LX2.out.p2 _ (.inr ⟨fv, y, hfv, hy, rfl⟩)).1
          have NA2 : Hid (∀ y, D2 fv = some y → y.block ≠ ab) := fun y hy e => by have := LTB.out _ (.inr ⟨fv, y, hfv, hy, rfl⟩); omega
          have hpl2 : (posU (fromB (fv : Int)) L q).length ≤ 1000000 := by have := posU_len (fromB (fv : Int)) L q; omega
          clear hC8 hF1 LX1 XA1 CT1 OW1 NP1 NA1 hpl e1
          go_upto_region 6 with fail
          refine wp_region_gen [12, 14] (fun d i u z => match i with
              | 0 => z = .pointer (some ⟨P, 2, none⟩)
              | 1 => z = .slice (some ⟨H2, 0, none⟩) N N
              | 2 => z = .pointer (some ⟨ab, 0, none⟩)
              | 3 => z = .int .i64 (fv : Int)
              | 4 => z = .pointer (some ⟨P, 2, none⟩)
              | 5 => z = .slice (some ⟨H2, 0, none⟩) N N
              | 6 => z = .pointer (some ⟨ab, 0, none⟩)
              | 7 => z = .int .i64 (fv : Int)
              | 8 => z = .pointer (some ⟨H2, fv, none⟩)
              | 9 => z = .slice (D2 fv) (posU (fromB (fv : Int)) L q).length (E2 fv)
              | 10 => z = .int .i64 (q : Int)
              | 11 => (d 12 = false → ∃ g, z = .slice (some ⟨g, 0, none⟩) 1 1 ∧ u.cell? ⟨g, 0, none⟩ = some (.int .i64 (q : Int)))
              | 12 => (d 12 = true ∧ (d 14 = false → ∃ dd cc, z = .slice dd ((posU (fromB (fv : Int)) L q).length + 1) cc ∧ GrwN V0.heap.size w8 (D2 fv) ((posU (fromB (fv : Int)) L q) ++ [(q : Int)]) u dd cc))
              | 13 => z = .pointer (some ⟨H2, fv, none⟩)
              | 14 => True
              | _ => True) (fun d u => (d 12 = false → Below w8.heap.size w8 u) ∧ (∀ k, k < w8.heap.size → (∀ y, D2 fv = some y → y.block ≠ k) → d 14 = false → u.heap[k]? = w8.heap[k]?) ∧ w8.heap.size ≤ u.heap.size ∧ (d 14 = true → ∃ dd cc, FinN V0.heap.size w8 H2 N fv D2 E2 (fun v => posU (fromB (v : Int)) L q) ((posU (fromB (fv : Int)) L q) ++ [(q : Int)]) u dd cc) ∧ (u.os = w8.os ∧ u.tape = w8.tape ∧ u.output = w8.output)) (by kernel_rfl) (by kernel_rfl) (by kernel_rfl) ?_ ?_ ?_ ?_ ?_ ?_ (by kernel_rfl)
          · intro d i w v w' h hb
            match i, h with
            | 0, h => exact h
            | 1, h => exact h
            | 2, h => exact h
            | 3, h => exact h
            | 4, h => exact h
            | 5, h => exact h
            | 6, h => exact h
            | 7, h => exact h
            | 8, h => exact h
            | 9, h => exact h
            | 10, h => exact h
            | 11, h => exact fun e => by obtain ⟨g, h1, h2⟩ := h e; exact ⟨g, h1, cellN_later hb h2⟩
            | 12, h => exact ⟨h.1, fun e => by obtain ⟨dd, cc, h1, h2⟩ := h.2 e; exact ⟨dd, cc, h1, h2.later hb⟩⟩
            | 13, h => exact h
            | 14, h => exact h
            | _ + 15, _ => trivial
          · intro d u u' h hb
            exact ⟨fun e => (h.1 e).trans (hb.mono (h.1 e).size), fun k hk hn e => (hb.block k (Nat.lt_of_lt_of_le hk h.2.2.1)).trans (h.2.1 k hk hn e), Nat.le_trans h.2.2.1 hb.size, fun e => by obtain ⟨dd, cc, hF⟩ := h.2.2.2.1 e; exact ⟨dd, cc, hF.later hb⟩, hb.os.trans h.2.2.2.2.1, hb.tape.trans h.2.2.2.2.2.1, hb.output.trans h.2.2.2.2.2.2⟩
          · exact ⟨fun _ => Below.refl _ _, fun _ _ _ _ => rfl, Nat.le_refl _, fun e => absurd e (by decide), rfl, rfl, rfl⟩
          · intro d i o ρ w' hm ho hf hg hC hcs hfs hfr hdep
            match i, hm, ho, hf, hg, hfr, hdep with
            | 0, _, ho, hf, hg, hfr, hdep =>
              simp only [gTA, gCZ, gSI] at ho
              subst ho
              refine ⟨fun _ => ?_, fun hw => absurd (show true = false from hw) (by decide)⟩
              have ts : ρ (.tmp 3) = .pointer (some ⟨P, 0, none⟩) := hfr 3 (by kernel_rfl)
              simp [go_sem, ts]
              exact ⟨Below.refl _ _, rfl⟩
            | 1, _, ho, hf, hg, hfr, hdep =>
              simp only [gTA, gCZ, gCS, gSI] at ho
              subst ho
              refine ⟨fun _ => ?_, fun hw => absurd (show true = false from hw) (by decide)⟩
              have cc : w'.cell? ⟨P, 2, none⟩ = some (.slice (some ⟨H2, 0, none⟩) N N) := cell_block (hC.2.1 P LX2.out.blk.lt NP2.out (by first | exact hf 14 (by decide) (by kernel_rfl) | assumption)) (LX2.out.blk.cell rfl)
              have d0 : ρ (.tmp 38) = .pointer (some ⟨P, 2, none⟩) := hdep 0 38 (by kernel_rfl) (by kernel_rfl)
              simp [go_sem, d0, cc]
              exact ⟨Below.refl _ _, rfl⟩
            | 2, _, ho, hf, hg, hfr, hdep =>
              simp only [gTA, gCZ, gCS, gSI] at ho
              subst ho
              refine ⟨fun _ => ?_, fun hw => absurd (show true = false from hw) (by decide)⟩
              have ts : ρ (.tmp 5) = .pointer (some ⟨ab, 0, none⟩) := hfr 5 (by kernel_rfl)
              simp [go_sem, ts]
              exact ⟨Below.refl _ _, rfl⟩
            | 3, _, ho, hf, hg, hfr, hdep =>
              simp only [gTA, gCZ, gCS, gSI] at ho
              subst ho
              refine ⟨fun _ => ?_, fun hw => absurd (show true = false from hw) (by decide)⟩
              have cc : w'.cell? ⟨ab, 0, none⟩ = some (.int .i64 (fv : Int)) := cell_block (hC.2.1 ab XA2.out.lt NA2.out (by first | exact hf 14 (by decide) (by kernel_rfl) | assumption)) (XA2.out.cell rfl)
              have d0 : ρ (.tmp 40) = .pointer (some ⟨ab, 0, none⟩) := hdep 2 40 (by kernel_rfl) (by kernel_rfl)
              simp [go_sem, d0, cc]
              exact ⟨Below.refl _ _, rfl⟩
            | 4, _, ho, hf, hg, hfr, hdep =>
              simp only [gTA, gCZ, gCS, gSI] at ho
              subst ho
              refine ⟨fun _ => ?_, fun hw => absurd (show true = false from hw) (by decide)⟩
              have ts : ρ (.tmp 3) = .pointer (some ⟨P, 0, none⟩) := hfr 3 (by kernel_rfl)
              simp [go_sem, ts]
              exact ⟨Below.refl _ _, rfl⟩
            | 5, _, ho, hf, hg, hfr, hdep =>
              simp only [gTA, gCZ, gCS, gSI] at ho
              subst ho
              refine ⟨fun _ => ?_, fun hw => absurd (show true = false from hw) (by decide)⟩
              have cc : w'.cell? ⟨P, 2, none⟩ = some (.slice (some ⟨H2, 0, none⟩) N N) := cell_block (hC.2.1 P LX2.out.blk.lt NP2.out (by first | exact hf 14 (by decide) (by kernel_rfl) | assumption)) (LX2.out.blk.cell rfl)
              have d0 : ρ (.tmp 42) = .pointer (some ⟨P, 2, none⟩) := hdep 4 42 (by kernel_rfl) (by kernel_rfl)
              simp [go_sem, d0, cc]
              exact ⟨Below.refl _ _, rfl⟩
            | 6, _, ho, hf, hg, hfr, hdep =>
              simp only [gTA, gCZ, gCS, gSI] at ho
              subst ho
              refine ⟨fun _ => ?_, fun hw => absurd (show true = false from hw) (by decide)⟩
              have ts : ρ (.tmp 5) = .pointer (some ⟨ab, 0, none⟩) := hfr 5 (by kernel_rfl)
              simp [go_sem, ts]
              exact ⟨Below.refl _ _, rfl⟩
            | 7, _, ho, hf, hg, hfr, hdep =>
              simp only [gTA, gCZ, gCS, gSI] at ho
              subst ho
              refine ⟨fun _ => ?_, fun hw => absurd (show true = false from hw) (by decide)⟩
              have cc : w'.cell? ⟨ab, 0, none⟩ = some (.int .i64 (fv : Int)) := cell_block (hC.2.1 ab XA2.out.lt NA2.out (by first | exact hf 14 (by decide) (by kernel_rfl) | assumption)) (XA2.out.cell rfl)
              have d0 : ρ (.tmp 44) = .pointer (some ⟨ab, 0, none⟩) := hdep 6 44 (by kernel_rfl) (by kernel_rfl)
              simp [go_sem, d0, cc]
              exact ⟨Below.refl _ _, rfl⟩
            | 8, _, ho, hf, hg, hfr, hdep =>
              simp only [gTA, gCZ, gCS, gSI] at ho
              subst ho
              refine ⟨fun _ => ?_, fun hw => absurd (show true = false from hw) (by decide)⟩
              have d0 : ρ (.tmp 43) = .slice (some ⟨H2, 0, none⟩) N N := hdep 5 43 (by kernel_rfl) (by kernel_rfl)
              have d1 : ρ (.tmp 45) = .int .i64 (fv : Int) := hdep 7 45 (by kernel_rfl) (by kernel_rfl)
              simp [go_sem, d0, d1, hfv]
              exact ⟨Below.refl _ _, rfl⟩
            | 9, _, ho, hf, hg, hfr, hdep =>
              simp only [gTA, gCZ, gCS, gSI] at ho
              subst ho
              refine ⟨fun _ => ?_, fun hw => absurd (show true = false from hw) (by decide)⟩
              have h12 : d 12 = false := hf 12 (by decide) (by kernel_rfl)
              have cc : w'.cell? ⟨H2, fv, none⟩ = some (.slice (D2 fv) (posU (fromB (fv : Int)) L q).length (E2 fv)) := cellN_later (hC.1 h12) CT2
              have d0 : ρ (.tmp 46) = .pointer (some ⟨H2, fv, none⟩) := hdep 8 46 (by kernel_rfl) (by kernel_rfl)
              simp [go_sem, d0, cc]
              exact ⟨Below.refl _ _, rfl⟩
            | 10, _, ho, hf, hg, hfr, hdep =>
              simp only [gTA, gCZ, gCS, gSI] at ho
              subst ho
              refine ⟨fun _ => ?_, fun hw => absurd (show true = false from hw) (by decide)⟩
              have ts : ρ (.tmp 4) = .int .i64 (q : Int) := hfr 4 (by kernel_rfl)
              simp [go_sem, ts]
              exact ⟨Below.refl _ _, rfl⟩
            | 11, _, ho, hf, hg, hfr, hdep =>
              simp only [gTA, gCZ, gCS, gSI] at ho
              subst ho
              refine ⟨fun _ => ?_, fun hw => absurd (show true = false from hw) (by decide)⟩
              have t0 : ρ (.tmp 48) = .int .i64 (q : Int) := hdep 10 48 (by kernel_rfl) (by kernel_rfl)
              simp [go_sem, t0]
              exact ⟨(Below.refl _ _).alloc (Nat.le_refl _) _, fun _ => ⟨w'.heap.size, rfl, by simp⟩⟩
            | 12, hm, _, _, _, _, _ => exact absurd hm (by decide)
            | 13, _, ho, hf, hg, hfr, hdep =>
              simp only [gTA, gCZ, gCS, gSI] at ho
              subst ho
              refine ⟨fun _ => ?_, fun hw => absurd (show true = false from hw) (by decide)⟩
              have d0 : ρ (.tmp 39) = .slice (some ⟨H2, 0, none⟩) N N := hdep 1 39 (by kernel_rfl) (by kernel_rfl)
              have d1 : ρ (.tmp 41) = .int .i64 (fv : Int) := hdep 3 41 (by kernel_rfl) (by kernel_rfl)
              simp [go_sem, d0, d1, hfv]
              exact ⟨Below.refl _ _, rfl⟩
            | 14, hm, _, _, _, _, _ => exact absurd hm (by decide)
            | n + 15, _, ho, _, _, _, _ => simp at ho
          · intro d i o ρ w' hm ho h0 hf hg hC hcs hfs hfr hdep
            match i, hm, ho, h0, hf, hg, hfr, hdep with
            | 0, hm, _, _, _, _, _, _ => exact absurd hm (by decide)
            | 1, hm, _, _, _, _, _, _ => exact absurd hm (by decide)
            | 2, hm, _, _, _, _, _, _ => exact absurd hm (by decide)
            | 3, hm, _, _, _, _, _, _ => exact absurd hm (by decide)
            | 4, hm, _, _, _, _, _, _ => exact absurd hm (by decide)
            | 5, hm, _, _, _, _, _, _ => exact absurd hm (by decide)
            | 6, hm, _, _, _, _, _, _ => exact absurd hm (by decide)
            | 7, hm, _, _, _, _, _, _ => exact absurd hm (by decide)
            | 8, hm, _, _, _, _, _, _ => exact absurd hm (by decide)
            | 9, hm, _, _, _, _, _, _ => exact absurd hm (by decide)
            | 10, hm, _, _, _, _, _, _ => exact absurd hm (by decide)
            | 11, hm, _, _, _, _, _, _ => exact absurd hm (by decide)
            | 12, _, ho, h0, hf, hg, hfr, hdep =>
              simp only [gTA, gCZ, gCS, gSI] at ho
              subst ho
              have t0 : ρ (.tmp 47) = .slice (D2 fv) (posU (fromB (fv : Int)) L q).length (E2 fv) := hdep 9 47 (by kernel_rfl) (by kernel_rfl)
              obtain ⟨g, t1, cg⟩ : ∃ g, ρ (.tmp 49) = .slice (some ⟨g, 0, none⟩) 1 1 ∧ w'.cell? ⟨g, 0, none⟩ = some (.int .i64 (q : Int)) := hdep 11 49 (by kernel_rfl) (by kernel_rfl) h0
              have h14 : d 14 = false := hf 14 (by decide) (by kernel_rfl)
              refine ⟨rfl, mark_appN (.tmp 47) (.tmp 49) rfl t0 t1 OW2.out (hC.1 h0) cg (by omega) LB2.out ?_⟩
              intro u9 d9 c9 hG
              refine ⟨⟨fun e => absurd e (by rw [doneAt_eq]; decide), fun k hk hn _ => hG.keep k hk hn, hG.size, fun e => absurd ((doneAt_ne d (by decide)).symm.trans e) (by rw [h14]; decide), ?_⟩, fun _ => ⟨doneAt_eq _ _, fun _ => ⟨d9, c9, rfl, hG⟩⟩, ?_⟩
              · exact ⟨hG.os, hG.tape, hG.output⟩
              intro j t hj hs
              match j, hs with
              | 0, hs => exact hs
              | 1, hs => exact hs
              | 2, hs => exact hs
              | 3, hs => exact hs
              | 4, hs => exact hs
              | 5, hs => exact hs
              | 6, hs => exact hs
              | 7, hs => exact hs
              | 8, hs => exact hs
              | 9, hs => exact hs
              | 10, hs => exact hs
              | 11, hs => exact fun e => absurd e (by rw [doneAt_eq]; decide)
              | 12, hs => exact absurd hs.1 (by rw [h0]; decide)
              | 13, hs => exact hs
              | 14, _ => trivial
              | _ + 15, _ => trivial
            | 13, hm, _, _, _, _, _, _ => exact absurd hm (by decide)
            | 14, _, ho, h0, hf, hg, hfr, hdep =>
              simp only [gTA, gCZ, gCS, gSI] at ho
              subst ho
              have t0 : ρ (.tmp 51) = .pointer (some ⟨H2, fv, none⟩) := hdep 13 51 (by kernel_rfl) (by kernel_rfl)
              have t9 : d 12 = true ∧ (d 14 = false → ∃ dd cc, ρ (.tmp 50) = .slice dd ((posU (fromB (fv : Int)) L q).length + 1) cc ∧ GrwN V0.heap.size w8 (D2 fv) ((posU (fromB (fv : Int)) L q) ++ [(q : Int)]) w' dd cc) := hdep 12 50 (by kernel_rfl) (by kernel_rfl)
              obtain ⟨dd, cc, e9, hG⟩ := t9.2 h0
              have hk := hG.keep H2 LX2.out.t2.long.lt (fun y hy => LX2.out.t2.dt fv y hfv hy)
              have c1 : w'.cell? ⟨H2, fv, none⟩ = some (.slice (D2 fv) (posU (fromB (fv : Int)) L q).length (E2 fv)) := cell_block hk CT2
              have f1 : w'.frozen? ⟨H2, fv, none⟩ = false := (LX2.out.t2.long.of_block hk).frozen _
              refine ⟨rfl, markUpon_skip (w' := w'.setCell ⟨H2, fv, none⟩ (.slice dd ((posU (fromB (fv : Int)) L q).length + 1) cc)) (by simp [go_sem, t0, e9, c1, f1]) ?_⟩
              have hF := finN_of LX2.out.t2 hfv hG
              rw [List.length_append] at hF
              refine ⟨⟨fun e => absurd ((doneAt_ne d (by decide)).symm.trans e) (by rw [t9.1]; decide), fun k hk hn e => absurd e (by rw [doneAt_eq]; decide), by rw [World.size_setCell]; exact hG.size, fun _ => ⟨dd, cc, hF⟩, ⟨hG.os, hG.tape, hG.output⟩⟩, fun h => absurd rfl h, ?_⟩
              intro j t hj hs
              match j, hs with
              | 0, hs => exact hs
              | 1, hs => exact hs
              | 2, hs => exact hs
              | 3, hs => exact hs
              | 4, hs => exact hs
              | 5, hs => exact hs
              | 6, hs => exact hs
              | 7, hs => exact hs
              | 8, hs => exact hs
              | 9, hs => exact hs
              | 10, hs => exact hs
              | 11, hs => exact fun e => absurd ((doneAt_ne d (by decide)).symm.trans e) (by rw [t9.1]; decide)
              | 12, hs => exact ⟨(doneAt_ne d (by decide)).trans hs.1, fun e => absurd e (by rw [doneAt_eq]; decide)⟩
              | 13, hs => exact hs
              | 14, _ => trivial
              | _ + 15, _ => trivial
            | n + 15, _, ho, _, _, _, _, _ => simp at ho
          · intro V w7 hC7 hS
            simp only [puts, put_none]
            simp only [Act.put, List.setIfInBounds_toArray, List.set_cons_zero, List.set_cons_succ]
            clear hS 
            obtain ⟨dd2, cc2, hF2⟩ := hC7.2.2.2.1 rfl
            have LX3 := hiddenN (LX2.out.step2 LB2.out hfv hF2)
            have e2 := T2.out
            rw [e2] at LX3
            clear hC7 hF2 LX2 XA2 CT2 OW2 NP2 NA2 hpl2 e2
            go_wp2
            go_roundg (len - (q + 1))
            case measure => omega
            case rel => exact ⟨q + 1, _, _, _, _, by omega, rfl, by go_num, LX3.out⟩
      · have ek : q = len := by omega
        subst ek
        have hki : ¬ (q : Int) < (q : Int) := by omega
        have z0 := HW.out.blk.cell (k := 0) rfl
        have z1 := HW.out.blk.cell (k := 1) rfl
        have z2 := HW.out.blk.cell (k := 2) rfl
        simp only [List.getElem_toArray, List.getElem_cons_zero, List.getElem_cons_succ] at z0 z1 z2
        rw [HL.out] at z0
        have G2 := hiddenN (G1.out.below HW.out.bel)
        have hlt2 := G1.out.lt
        have TT1 := hiddenN HW.out.t1
        have TT2 := hiddenN HW.out.t2
        have AR := hiddenN HW.out.arcs
        have AL := hiddenN HW.out.low
        have hV0 : w.heap.size + 1 < V0.heap.size := hlt2
        have HLq := hiddenN HL.out
        clear G1 HA HSA HL HW
        go_wp2_with (refine wpList_storeW _ rfl 121 (.tmp 2) (.tmp 53) rfl rfl (w.heap.size + 1) 121 _ _ rfl rfl G2.out sizWir rfl rfl ?_; intro w8 hN hU; have N8 := hiddenN hN; have U8 := hiddenN hU; clear hN hU)
        have t0 := N8.out.cell (k := 0) rfl
        have t1 := N8.out.cell (k := 1) rfl
        have t2 := N8.out.cell (k := 2) rfl
        simp only [List.getElem_toArray, List.getElem_cons_zero, List.getElem_cons_succ] at t0 t1 t2
        refine bodyPost_ret (v := .agg #[.slice aA q cA, .slice (some ⟨H1, 0, none⟩) N N, .slice (some ⟨H2, 0, none⟩) N N]) (by simp [results, Tryz.results82, go_sem, t0, t1, t2]) rfl ?_
        have old : ∀ k, V0.heap.size ≤ k → k < wr.heap.size → w8.heap[k]? = wr.heap[k]? := fun k h1 h2 => U8.out.block k h2 (by omega)
        have hNt : ((N : Int)).toNat = N := Int.toNat_natCast N
        rw [← HWE.out]
        unfold WiredE
        rw [hNt, show (⟨(N : Int), L⟩ : NN).arcs.length = q from HLq.out]
        refine ⟨aA, cA, H1, H2, D1, D2, E1, E2, rfl, AR.out.keep (fun x hx => old _ (AL.out x hx).1 (AL.out x hx).2), fun x hx => ⟨by have := (AL.out x hx).1; omega, Nat.lt_of_lt_of_le (AL.out x hx).2 U8.out.size⟩, ?_, ?_, BR.out.trans (U8.out.below (by omega) BR.out.size)⟩
        · have eY : (fun v : Nat => inArcsN ⟨(N : Int), L⟩ (v : Int)) = fun v : Nat => posU (toB (v : Int)) L q := by
            funext v
            show posU _ L L.length = _
            rw [HLq.out]
          rw [eY]
          refine (TT1.out.keep fun k hk => old k (TT1.out.lt hk).1 (TT1.out.lt hk).2).mono (show w.heap.size ≤ V0.heap.size by omega)
        · have eY : (fun v : Nat => outArcsN ⟨(N : Int), L⟩ (v : Int)) = fun v : Nat => posU (fromB (v : Int)) L q := by
            funext v
            show posU _ L L.length = _
            rw [HLq.out]
          rw [eY]
          refine (TT2.out.keep fun k hk => old k (TT2.out.lt hk).1 (TT2.out.lt hk).2).mono (show w.heap.size ≤ V0.heap.size by omega)
/-- The wiring's blocks. -/
def WbN (N : Nat) (aA : Option Addr) (H1 H2 : Nat) (D1 D2 : Nat → Option Addr) (k : Nat) : Prop := (∃ x, aA = some x ∧ x.block = k) ∨ ofT N H1 D1 k ∨ ofT N H2 D2 k
/-- A wiring, as it lies. -/
structure WrN (B : Nat) (w : World) (L : List NA) (N : Nat) (aA : Option Addr) (H1 H2 : Nat) (D1 D2 : Nat → Option Addr) (E1 E2 : Nat → Nat) : Prop where
  arcs : AtN w aA L
  sA : ∀ x, aA = some x → B ≤ x.block ∧ x.block < w.heap.size
  t1 : TabN B w H1 N D1 E1 (fun v => posU (toB (v : Int)) L L.length)
  t2 : TabN B w H2 N D2 E2 (fun v => posU (fromB (v : Int)) L L.length)
theorem WrN.lt {B : Nat} {w : World} {L : List NA} {N : Nat} {aA : Option Addr} {H1 H2 : Nat} {D1 D2 : Nat → Option Addr} {E1 E2 : Nat → Nat} (h : WrN B w L N aA H1 H2 D1 D2 E1 E2) {k : Nat} (hk : WbN N aA H1 H2 D1 D2 k) : B ≤ k ∧ k < w.heap.size := by
  rcases hk with ⟨x, hx, rfl⟩ | h1 | h1
  · exact h.sA x hx
  · exact h.t1.lt h1
  · exact h.t2.lt h1
theorem WrN.keep {B : Nat} {w w' : World} {L : List NA} {N : Nat} {aA : Option Addr} {H1 H2 : Nat} {D1 D2 : Nat → Option Addr} {E1 E2 : Nat → Nat} (h : WrN B w L N aA H1 H2 D1 D2 E1 E2) (hk : ∀ k, WbN N aA H1 H2 D1 D2 k → w'.heap[k]? = w.heap[k]?) (hs : w.heap.size ≤ w'.heap.size) : WrN B w' L N aA H1 H2 D1 D2 E1 E2 :=
  ⟨h.arcs.keep (fun x hx => hk _ (.inl ⟨x, hx, rfl⟩)), fun x hx => ⟨(h.sA x hx).1, Nat.lt_of_lt_of_le (h.sA x hx).2 hs⟩, h.t1.keep (fun _ hk' => hk _ (.inr (.inl hk'))), h.t2.keep (fun _ hk' => hk _ (.inr (.inr hk')))⟩
theorem WrN.below {B : Nat} {w w' : World} {L : List NA} {N : Nat} {aA : Option Addr} {H1 H2 : Nat} {D1 D2 : Nat → Option Addr} {E1 E2 : Nat → Nat} (h : WrN B w L N aA H1 H2 D1 D2 E1 E2) (hb : Below w.heap.size w w') : WrN B w' L N aA H1 H2 D1 D2 E1 E2 := h.keep (fun k hk => hb.block k (h.lt hk).2) hb.size
theorem WrN.mono {B B' : Nat} {w : World} {L : List NA} {N : Nat} {aA : Option Addr} {H1 H2 : Nat} {D1 D2 : Nat → Option Addr} {E1 E2 : Nat → Nat} (h : WrN B w L N aA H1 H2 D1 D2 E1 E2) (hB : B' ≤ B) : WrN B' w L N aA H1 H2 D1 D2 E1 E2 := ⟨h.arcs, fun x hx => ⟨Nat.le_trans hB (h.sA x hx).1, (h.sA x hx).2⟩, h.t1.mono hB, h.t2.mono hB⟩
structure GhN where
  aA : Option Addr
  cA : Nat
  H1 : Nat
  H2 : Nat
  D1 : Nat → Option Addr
  D2 : Nat → Option Addr
  E1 : Nat → Nat
  E2 : Nat → Nat
  gF : Nat
structure CN (V : World) (L : List NA) (N : Nat) (y : GhN) (d : Nat → Bool) (u : World) : Prop where
  bel : Below V.heap.size V u
  wr : d 1 = true → WrN V.heap.size u L N y.aA y.H1 y.H2 y.D1 y.D2 y.E1 y.E2
  fi : d 4 = true → CapR V.heap.size u (some ⟨y.gF, 0, none⟩) N (List.replicate N 0)
  dis : d 1 = true → d 4 = true → ∀ k, WbN N y.aA y.H1 y.H2 y.D1 y.D2 k → k ≠ y.gF
theorem CN.start (V : World) (L : List NA) (N : Nat) (y : GhN) : CN V L N y (fun _ => false) V := ⟨Below.refl _ _, (fun h => by cases h), (fun h => by cases h), (fun h => by cases h)⟩
theorem CN.later {V u u' : World} {L : List NA} {N : Nat} {y : GhN} {d : Nat → Bool} (h : CN V L N y d u) (hb : Below u.heap.size u u') : CN V L N y d u' :=
  ⟨h.bel.trans (hb.mono h.bel.size), fun e => (h.wr e).below hb, fun e => (h.fi e).later hb, h.dis⟩
theorem CN.m1 {V u u' : World} {L : List NA} {N : Nat} {y : GhN} {d : Nat → Bool} {aA : Option Addr} {cA H1 H2 : Nat} {D1 D2 : Nat → Option Addr} {E1 E2 : Nat → Nat} (h : CN V L N y d u) (hw : WrN u.heap.size u' L N aA H1 H2 D1 D2 E1 E2) (hb : Below u.heap.size u u') : CN V L N ⟨aA, cA, H1, H2, D1, D2, E1, E2, y.gF⟩ (doneAt d 1) u' := by
  have g := h.later hb
  have e4 : doneAt d 1 4 = d 4 := doneAt_ne d (by decide)
  refine ⟨g.bel, fun _ => hw.mono h.bel.size, fun e => g.fi (by rw [← e4]; exact e), fun _ e k hk => ?_⟩
  rw [e4] at e
  have h1 := (hw.lt hk).1
  have h2 := ((h.fi e).lt _ rfl).2
  intro hh
  simp only at h2 hh
  omega
theorem made_ownN (w : World) (N : Nat) (hN : N ≤ 1000) {B : Nat} (hB : B ≤ w.heap.size) : CapR B (w.alloc (.cells (madeCells #[.int .i64 0] N) 3)) (some ⟨w.heap.size, 0, none⟩) N (List.replicate N 0) := by
  have hm : (w.alloc (.cells (madeCells #[.int .i64 0] N) 3)).heap[w.heap.size]? = some (.cells (madeCells #[.int .i64 0] N) 3 (0, 0)) := by show (w.heap.push _)[w.heap.size]? = _; simp
  unfold CapR
  rw [List.length_replicate]
  refine ⟨by simp, .inr ⟨w.heap.size, N, _, rfl, hB, hm, Nat.le_refl _, by unfold maxLen; omega, by simp [madeCells], ?_⟩⟩
  apply List.ext_getElem?
  intro k
  rw [Nat.mul_one]
  by_cases hk : k < N <;> simp [madeCells, hk, Nat.mod_one]
theorem CN.m4 {V u : World} {L : List NA} {N : Nat} {y : GhN} {d : Nat → Bool} (h : CN V L N y d u) (hN : N ≤ 1000) : CN V L N ⟨y.aA, y.cA, y.H1, y.H2, y.D1, y.D2, y.E1, y.E2, u.heap.size⟩ (doneAt d 4) (u.alloc (.cells (madeCells #[.int .i64 0] N) 3)) := by
  have hb : Below u.heap.size u (u.alloc (.cells (madeCells #[.int .i64 0] N) 3)) := (Below.refl _ _).alloc (Nat.le_refl _) _
  have g := h.later hb
  have e1 : doneAt d 4 1 = d 1 := doneAt_ne d (by decide)
  refine ⟨g.bel, fun e => g.wr (by rw [← e1]; exact e), fun _ => made_ownN u N hN h.bel.size, fun e _ k hk => ?_⟩
  rw [e1] at e
  have h1 := ((h.wr e).lt hk).2
  show k ≠ u.heap.size
  omega
/-- A state while its tokens are laid. -/
structure LN (B : Nat) (w0 wr : World) (L : List NA) (N K : Nat) (T : List Int) (aA : Option Addr) (cA H1 H2 : Nat) (D1 D2 : Nat → Option Addr) (E1 E2 : Nat → Nat) (aT : Option Addr) (cT gF : Nat) : Prop where
  blk : BlkA 124 K wr #[.slice aA L.length cA, .slice (some ⟨H1, 0, none⟩) N N, .slice (some ⟨H2, 0, none⟩) N N, .slice aT T.length cT, .slice (some ⟨gF, 0, none⟩) N N]
  w : WrN B wr L N aA H1 H2 D1 D2 E1 E2
  fi : CapR B wr (some ⟨gF, 0, none⟩) N (List.replicate N 0)
  tok : CapR B wr aT cT T
  lK : B ≤ K
  wb : ∀ k, WbN N aA H1 H2 D1 D2 k → k ≠ K ∧ k ≠ gF
  kf : K ≠ gF
  tk : ∀ y, aT = some y → y.block ≠ K ∧ y.block ≠ gF ∧ ¬ WbN N aA H1 H2 D1 D2 y.block
  bel : Below B w0 wr
theorem LN.later {B : Nat} {w0 wr w' : World} {L : List NA} {N K : Nat} {T : List Int} {aA : Option Addr} {cA H1 H2 : Nat} {D1 D2 : Nat → Option Addr} {E1 E2 : Nat → Nat} {aT : Option Addr} {cT gF : Nat} (h : LN B w0 wr L N K T aA cA H1 H2 D1 D2 E1 E2 aT cT gF) (hb : Below wr.heap.size wr w') (hB : B ≤ wr.heap.size) : LN B w0 w' L N K T aA cA H1 H2 D1 D2 E1 E2 aT cT gF :=
  ⟨h.blk.below hb, h.w.below hb, h.fi.later hb, h.tok.later hb, h.lK, h.wb, h.kf, h.tk, h.bel.trans (hb.mono hB)⟩
/-- The tokens' row has grown, the state's field is set. -/
structure FinT (B : Nat) (V : World) (K : Nat) (cs : Array Value) (aT : Option Addr) (R : List Int) (u : World) (d : Option Addr) (c : Nat) : Prop where
  own : CapR B u d c R
  blk : BlkA 124 K u (cs.setIfInBounds 3 (.slice d R.length c))
  keep : ∀ k, k < V.heap.size → k ≠ K → (∀ y, aT = some y → y.block ≠ k) → u.heap[k]? = V.heap[k]?
  new : ∀ z, d = some z → aT = some z ∨ V.heap.size ≤ z.block
  size : V.heap.size ≤ u.heap.size
  os : u.os = V.os
  tape : u.tape = V.tape
  output : u.output = V.output
theorem FinT.later {B : Nat} {V u u' : World} {K c : Nat} {cs : Array Value} {aT d : Option Addr} {R : List Int} (h : FinT B V K cs aT R u d c) (hb : Below u.heap.size u u') : FinT B V K cs aT R u' d c :=
  ⟨h.own.later hb, h.blk.below hb, fun k hk h1 h2 => (hb.block k (Nat.lt_of_lt_of_le hk h.size)).trans (h.keep k hk h1 h2), h.new, Nat.le_trans h.size hb.size, hb.os.trans h.os, hb.tape.trans h.tape, hb.output.trans h.output⟩
theorem finT_of {B : Nat} {V u : World} {K c : Nat} {cs : Array Value} {aT d : Option Addr} {R : List Int} (hb : BlkA 124 K V cs) (hn : ∀ y, aT = some y → y.block ≠ K) (g : GrwN B V aT R u d c) : FinT B V K cs aT R (u.setCell ⟨K, 3, none⟩ (.slice d R.length c)) d c := by
  have hk := g.keep K hb.lt hn
  have dK : ∀ z, d = some z → z.block ≠ K := fun z hz => by
    rcases g.new z hz with h1 | h1
    · exact hn z h1
    · have := hb.lt; omega
  refine ⟨g.own.setOther (ad := ⟨K, 3, none⟩) dK _, (hb.keep hk).set 3 _, fun k h1 h2 h3 => ?_, g.new, by rw [World.size_setCell]; exact g.size, g.os, g.tape, g.output⟩
  rw [Below.heap_setCell u ⟨K, 3, none⟩ _ k h2]
  exact g.keep k h1 h3
theorem LN.step {B : Nat} {w0 V u : World} {L : List NA} {N K c : Nat} {T : List Int} {x : Int} {d : Option Addr} {aA : Option Addr} {cA H1 H2 : Nat} {D1 D2 : Nat → Option Addr} {E1 E2 : Nat → Nat} {aT : Option Addr} {cT gF : Nat} (h : LN B w0 V L N K T aA cA H1 H2 D1 D2 E1 E2 aT cT gF) (hB : B ≤ V.heap.size) (f : FinT B V K #[.slice aA L.length cA, .slice (some ⟨H1, 0, none⟩) N N, .slice (some ⟨H2, 0, none⟩) N N, .slice aT T.length cT, .slice (some ⟨gF, 0, none⟩) N N] aT (T ++ [x]) u d c) : LN B w0 u L N K (T ++ [x]) aA cA H1 H2 D1 D2 E1 E2 d c gF := by
  have kW : ∀ k, WbN N aA H1 H2 D1 D2 k → u.heap[k]? = V.heap[k]? := fun k hk => f.keep k (h.w.lt hk).2 (h.wb k hk).1 (fun y hy e => (h.tk y hy).2.2 (by rw [e]; exact hk))
  refine ⟨f.blk, h.w.keep kW f.size, h.fi.keep (fun x hx => by cases hx; exact f.keep _ (h.fi.lt _ rfl).2 (Ne.symm h.kf) (fun y hy => (h.tk y hy).2.1)), f.own, h.lK, h.wb, h.kf, fun y hy => ?_, ⟨f.os.trans h.bel.os, f.tape.trans h.bel.tape, f.output.trans h.bel.output, Nat.le_trans h.bel.size f.size, fun k hk => (f.keep k (Nat.lt_of_lt_of_le hk hB) (by have := h.lK; omega) (fun y hy => by have := (h.tok.lt y hy).1; omega)).trans (h.bel.block k hk)⟩⟩
  rcases f.new y hy with h1 | h1
  · exact h.tk y h1
  · exact ⟨by have := h.blk.lt; omega, by have := (h.fi.lt _ rfl).2; simp only at this; omega, fun e => by have := (h.w.lt e).2; omega⟩
def startT (n : NN) : List Int := n.arcs.map NA.s
theorem start_nth {n : NN} {k : Nat} (h : k < n.arcs.length) : nth (startT n) k = (nthNa n.arcs k).s := by
  unfold nth startT nthNa
  rw [List.getD_eq_getElem?_getD, List.getD_eq_getElem?_getD, List.getElem?_map, List.getElem?_eq_getElem h]
  rfl
theorem start_in {n : NN} (h : SoundN n) : InR (startT n) := by
  intro k
  by_cases hk : k < n.arcs.length
  · rw [start_nth hk]; have := (h.arcs k hk).s; omega
  · unfold nth startT
    rw [List.getD_eq_getElem?_getD, List.getElem?_eq_none (by simpa using Nat.le_of_not_lt hk)]
    exact ⟨by decide, by decide⟩
theorem LN.fin {B : Nat} {w0 wr : World} {n : NN} {N K : Nat} {aA : Option Addr} {cA H1 H2 : Nat} {D1 D2 : Nat → Option Addr} {E1 E2 : Nat → Nat} {aT : Option Addr} {cT gF : Nat} (hS : SoundN n) (hN : n.nodes.toNat = N) (h : LN B w0 wr n.arcs N K (startT n) aA cA H1 H2 D1 D2 E1 E2 aT cT gF) : StP B wr.heap.size wr K n (startT n) (List.replicate N 0) aA cA H1 H2 D1 D2 E1 E2 aT cT gF := by
  have inr0 : InR (List.replicate N (0 : Int)) := fun k => by
    unfold nth
    rw [List.getD_eq_getElem?_getD]
    by_cases hk : k < N
    · rw [List.getElem?_replicate, if_pos hk]; exact ⟨by decide, by decide⟩
    · rw [List.getElem?_replicate, if_neg hk]; exact ⟨by decide, by decide⟩
  subst hN
  have fx : ∀ k, WbN n.nodes.toNat aA H1 H2 D1 D2 k → Fix B wr.heap.size aT gF k := fun k hk => ⟨(h.w.lt hk).1, (h.w.lt hk).2, fun y hy e => (h.tk y hy).2.2 (by rw [← e]; exact hk), (h.wb k hk).2⟩
  exact ⟨h.blk, h.w.arcs, fun v hv => ⟨h.w.t1.long.cell hv, (h.w.t1.own v hv).at⟩, fun v hv => ⟨h.w.t2.long.cell hv, (h.w.t2.own v hv).at⟩, h.tok, h.fi, by unfold startT; rw [List.length_map], by rw [List.length_replicate], start_in hS, inr0, hS,
    ⟨h.lK, h.blk.lt, fun y hy e => (h.tk y hy).1 e.symm, h.kf⟩, fun x hx => fx _ (.inl ⟨x, hx, rfl⟩), fx _ (.inr (.inl (.inl rfl))), fx _ (.inr (.inr (.inl rfl))), fun v hv x hx => fx _ (.inr (.inl (.inr ⟨v, x, hv, hx, rfl⟩))), fun v hv x hx => fx _ (.inr (.inr (.inr ⟨v, x, hv, hx, rfl⟩))), fun y hy => ⟨(h.tok.lt y hy).1, (h.tok.lt y hy).2, (h.tk y hy).2.1⟩, ⟨(h.fi.lt _ rfl).1, (h.fi.lt _ rfl).2⟩, Nat.le_refl _⟩
/-- How New ends. -/
def NewE (n : NN) (w : World) (e : Ending) (w' : World) : Prop :=
  if checkN n = 0 then ∃ K E, e = .returned (.tuple #[.pointer (some ⟨K, 0, none⟩), .int .i64 0]) ∧ StE w.heap.size E w' K n (startT n) (List.replicate n.nodes.toNat 0) ∧ Below w.heap.size w w'
  else e = .returned (.tuple #[.pointer none, .int .i64 (checkN n)]) ∧ Below w.heap.size w w'
theorem start_take {n : NN} {q : Nat} (h : q < n.arcs.length) : (startT n).take q ++ [(nthNa n.arcs q).s] = (startT n).take (q + 1) := by
  have hl : (startT n).length = n.arcs.length := by unfold startT; rw [List.length_map]
  have h1 := start_nth h
  unfold nth at h1
  rw [List.getD_eq_getElem?_getD, List.getElem?_eq_getElem (by omega)] at h1
  rw [List.take_add_one, List.getElem?_eq_getElem (by omega)]
  simp at h1
  simp [h1]
set_option maxRecDepth 100000 in
set_option maxHeartbeats 16000000 in
theorem newS_any (n : NN) (a : Option Addr) (c : Nat) (w : World) (h : AtN w a n.arcs) (hl : n.arcs.length ≤ 4611686018427387904) (hna : a = none → n.arcs.length = 0 ∧ c = 0) : Calls Tryz.prog 62 #[.agg #[.int .i64 n.nodes, .slice a n.arcs.length c]] w (NewE n w) := by
  have CK := hiddenN (fun (U : World) (hb : Below w.heap.size w U) => checkN_any n a c U (h.below hb) hl)
  by_cases hc0 : checkN n = 0
  · have hS := check_sound hc0
    have hnn := nodes_nat hS
    have WD0 := hiddenN (fun (U : World) (hb : Below w.heap.size w U) => wired_any n a c U hS (h.below hb) hna)
    obtain ⟨NE, hNE⟩ : ∃ R, NewE n w = R := ⟨_, rfl⟩
    rw [hNE]
    have HNE := hiddenN hNE
    have HFIN := hiddenN (fun (wr : World) (K : Nat) (aA : Option Addr) (cA H1 H2 : Nat) (D1 D2 : Nat → Option Addr) (E1 E2 : Nat → Nat) (aT : Option Addr) (cT gF : Nat) (hL : LN w.heap.size w wr n.arcs n.nodes.toNat K (startT n) aA cA H1 H2 D1 D2 E1 E2 aT cT gF) => hL.fin hS rfl)
    have HTK := hiddenN (fun q (hq : q < n.arcs.length) => start_take (n := n) hq)
    have HTA : Hid ((startT n).take n.arcs.length = startT n) := List.take_of_length_le (by unfold startT; rw [List.length_map]; exact Nat.le_refl _)
    have HTL : Hid ((startT n).length = n.arcs.length) := by show _ = _; unfold startT; rw [List.length_map]
    have hmost := hS.most
    have HA := hiddenN h
    rw [hc0] at CK
    obtain ⟨L, hL⟩ : ∃ L, n.arcs = L := ⟨_, rfl⟩
    obtain ⟨N, hN⟩ : ∃ N, n.nodes.toNat = N := ⟨_, rfl⟩
    obtain ⟨len, hlen⟩ : ∃ q, L.length = q := ⟨_, rfl⟩
    have HLL : Hid (L.length = len) := hlen
    have WD1 : Hid (∀ (U : World), Below w.heap.size w U → Calls Tryz.prog 82 #[.agg #[.int .i64 (N : Int), .slice a len c]] U fun e w' => ∃ (aA : Option Addr) (cA H1 H2 : Nat) (D1 D2 : Nat → Option Addr) (E1 E2 : Nat → Nat), e = .returned (.agg #[.slice aA len cA, .slice (some ⟨H1, 0, none⟩) N N, .slice (some ⟨H2, 0, none⟩) N N]) ∧ AtN w' aA L ∧ (∀ x, aA = some x → U.heap.size ≤ x.block ∧ x.block < w'.heap.size) ∧ TabN U.heap.size w' H1 N D1 E1 (fun v => posU (toB (v : Int)) L L.length) ∧ TabN U.heap.size w' H2 N D2 E2 (fun v => posU (fromB (v : Int)) L L.length) ∧ Below U.heap.size U w') := fun U hb => by
      have r := WD0.out U hb
      unfold WiredE inArcsN outArcsN at r
      rw [hL, hN, hlen, ← hnn.1, hN] at r
      rw [hlen]
      exact r
    rw [hN] at hnn HFIN
    rw [hL] at CK HA HFIN HTK HTA HTL hmost ⊢
    rw [hlen] at CK HTK HTA HTL hmost ⊢
    rw [← hnn.1] at CK ⊢
    have hn2 := hnn.2
    clear hnn
    have HC0 := hiddenN hc0
    have HNN := hiddenN hN
    clear WD0 hNE hS h hc0 hna hl
    have b0 := (Below.refl w.heap.size w).alloc (Nat.le_refl _) (.cells #[.int .i64 (N : Int), .slice a len c] 24)
    have G0 := hiddenN (blkA_new 24 w #[.int .i64 (N : Int), .slice a len c])
    have B0 := hiddenN b0
    have CK1 := hiddenN (CK.out _ b0)
    have z0 := G0.out.cell (k := 0) rfl
    have z1 := G0.out.cell (k := 1) rfl
    simp only [List.getElem_toArray, List.getElem_cons_zero, List.getElem_cons_succ] at z0 z1
    clear b0 CK
    go_enter Tryz.func62, Tryz.ntmps62
    go_upto_region 1 with fail
    generalize w.alloc (.cells #[.int .i64 (N : Int), .slice a len c] 24) = W0 at *
    go_upto_region 4 with (go_at_call 81; (with_reducible refine CK1.out.mono ?_); rintro e W1 ⟨rfl, b1⟩; have B1 := hiddenN (B0.out.trans (b1.mono B0.out.size)); have G1 := hiddenN (G0.out.below b1); clear b1 z0 z1)
    have z0 := G1.out.cell (k := 0) rfl
    have z1 := G1.out.cell (k := 1) rfl
    simp only [List.getElem_toArray, List.getElem_cons_zero, List.getElem_cons_succ] at z0 z1
    have WD : Hid (∀ (U : World), Below W1.heap.size W1 U → Calls Tryz.prog 82 #[.agg #[.int .i64 (N : Int), .slice a len c]] U fun e w' => ∃ (aA : Option Addr) (cA H1 H2 : Nat) (D1 D2 : Nat → Option Addr) (E1 E2 : Nat → Nat), e = .returned (.agg #[.slice aA len cA, .slice (some ⟨H1, 0, none⟩) N N, .slice (some ⟨H2, 0, none⟩) N N]) ∧ AtN w' aA L ∧ (∀ x, aA = some x → U.heap.size ≤ x.block ∧ x.block < w'.heap.size) ∧ TabN U.heap.size w' H1 N D1 E1 (fun v => posU (toB (v : Int)) L L.length) ∧ TabN U.heap.size w' H2 N D2 E2 (fun v => posU (fromB (v : Int)) L L.length) ∧ Below U.heap.size U w') := fun U hb => WD1.out U (B1.out.trans (hb.mono B1.out.size))
    have HM := hiddenN (run_make_row' (P := Tryz.prog) 25 3 (.int .i64 0) 8 Tryz.underlying25 Tryz.info3 rfl .i64 .i64 N (by omega) (by omega))
    clear WD1 CK1 G0 B0
    refine wp_region_gho [1, 4] (fun y d i u z => match i with
        | 0 => z = .agg #[.int .i64 (N : Int), .slice a len c]
        | 1 => (d 1 = true ∧ z = .agg #[.slice y.aA len y.cA, .slice (some ⟨y.H1, 0, none⟩) N N, .slice (some ⟨y.H2, 0, none⟩) N N])
        | 2 => z = .pointer (some ⟨w.heap.size, 0, none⟩)
        | 3 => z = .int .i64 (N : Int)
        | 4 => (d 4 = true ∧ z = .slice (some ⟨y.gF, 0, none⟩) N N)
        | 5 => ((d 1 = true ∧ d 4 = true) ∧ z = .agg #[.slice y.aA len y.cA, .slice (some ⟨y.H1, 0, none⟩) N N, .slice (some ⟨y.H2, 0, none⟩) N N, .slice none 0 0, .slice (some ⟨y.gF, 0, none⟩) N N])
        | 6 => ((d 1 = true ∧ d 4 = true) ∧ ∃ K, z = .pointer (some ⟨K, 0, none⟩) ∧ BlkA 124 K u #[.slice y.aA len y.cA, .slice (some ⟨y.H1, 0, none⟩) N N, .slice (some ⟨y.H2, 0, none⟩) N N, .slice none 0 0, .slice (some ⟨y.gF, 0, none⟩) N N] ∧ W1.heap.size ≤ K ∧ (∀ k, WbN N y.aA y.H1 y.H2 y.D1 y.D2 k → k ≠ K) ∧ K ≠ y.gF)
        | 7 => ((d 1 = true ∧ d 4 = true) ∧ ∃ K, z = .pointer (some ⟨K, 0, none⟩) ∧ BlkA 124 K u #[.slice y.aA len y.cA, .slice (some ⟨y.H1, 0, none⟩) N N, .slice (some ⟨y.H2, 0, none⟩) N N, .slice none 0 0, .slice (some ⟨y.gF, 0, none⟩) N N] ∧ W1.heap.size ≤ K ∧ (∀ k, WbN N y.aA y.H1 y.H2 y.D1 y.D2 k → k ≠ K) ∧ K ≠ y.gF)
        | _ => True) (fun y d u => CN W1 L N y d u) (⟨none, 0, 0, 0, fun _ => none, fun _ => none, fun _ => 0, fun _ => 0, 0⟩) (by kernel_rfl) (by kernel_rfl) (by kernel_rfl) ?_ ?_ ?_ ?_ ?_ ?_ (by kernel_rfl)
    · intro y d i w v w' h hb
      match i, h with
      | 0, h => exact h
      | 1, h => exact h
      | 2, h => exact h
      | 3, h => exact h
      | 4, h => exact h
      | 5, h => exact h
      | 6, h => exact ⟨h.1, by obtain ⟨K, h1, h2, h3⟩ := h.2; exact ⟨K, h1, h2.below hb, h3⟩⟩
      | 7, h => exact ⟨h.1, by obtain ⟨K, h1, h2, h3⟩ := h.2; exact ⟨K, h1, h2.below hb, h3⟩⟩
      | _ + 8, _ => trivial
    · intro y d u u' h hb
      exact CN.later h hb
    · exact CN.start _ _ _ _
    · intro y d i o ρ w' hm ho hf hg hC hcs hfs hfr hdep
      match i, hm, ho, hf, hg, hfr, hdep with
      | 0, _, ho, hf, hg, hfr, hdep =>
        simp only [gTA, gCZ, gSI] at ho
        subst ho
        refine ⟨fun _ => ?_, fun hw => absurd (show true = false from hw) (by decide)⟩
        have ts : ρ (.tmp 1) = .pointer (some ⟨w.heap.size, 0, none⟩) := hfr 1 (by kernel_rfl)
        have k0 := cellN_later hC.bel z0
        have k1 := cellN_later hC.bel z1
        simp [go_sem, ts, k0, k1]
        exact ⟨Below.refl _ _, rfl⟩
      | 1, hm, _, _, _, _, _ => exact absurd hm (by decide)
      | 2, _, ho, hf, hg, hfr, hdep =>
        simp only [gTA, gCZ, gCS, gSI] at ho
        subst ho
        refine ⟨fun _ => ?_, fun hw => absurd (show true = false from hw) (by decide)⟩
        have ts : ρ (.tmp 1) = .pointer (some ⟨w.heap.size, 0, none⟩) := hfr 1 (by kernel_rfl)
        simp [go_sem, ts]
        exact ⟨Below.refl _ _, rfl⟩
      | 3, _, ho, hf, hg, hfr, hdep =>
        simp only [gTA, gCZ, gCS, gSI] at ho
        subst ho
        refine ⟨fun _ => ?_, fun hw => absurd (show true = false from hw) (by decide)⟩
        have k0 := cellN_later hC.bel z0
        have d0 : ρ (.tmp 15) = .pointer (some ⟨w.heap.size, 0, none⟩) := hdep 2 15 (by kernel_rfl) (by kernel_rfl)
        simp [go_sem, d0, k0]
        exact ⟨Below.refl _ _, rfl⟩
      | 4, hm, _, _, _, _, _ => exact absurd hm (by decide)
      | 5, _, ho, hf, hg, hfr, hdep =>
        simp only [gTA, gCZ, gCS, gSI] at ho
        subst ho
        refine ⟨fun _ => ?_, fun hw => absurd (show true = false from hw) (by decide)⟩
        obtain ⟨q1, t1⟩ : d 1 = true ∧ ρ (.tmp 14) = .agg #[.slice y.aA len y.cA, .slice (some ⟨y.H1, 0, none⟩) N N, .slice (some ⟨y.H2, 0, none⟩) N N] := hdep 1 14 (by kernel_rfl) (by kernel_rfl)
        obtain ⟨q4, t4⟩ : d 4 = true ∧ ρ (.tmp 17) = .slice (some ⟨y.gF, 0, none⟩) N N := hdep 4 17 (by kernel_rfl) (by kernel_rfl)
        simp [go_sem, t1, t4]
        exact ⟨Below.refl _ _, ⟨q1, q4⟩, rfl⟩
      | 6, _, ho, hf, hg, hfr, hdep =>
        simp only [gTA, gCZ, gCS, gSI] at ho
        subst ho
        refine ⟨fun _ => ?_, fun hw => absurd (show true = false from hw) (by decide)⟩
        obtain ⟨qq, t5⟩ : (d 1 = true ∧ d 4 = true) ∧ ρ (.tmp 18) = .agg #[.slice y.aA len y.cA, .slice (some ⟨y.H1, 0, none⟩) N N, .slice (some ⟨y.H2, 0, none⟩) N N, .slice none 0 0, .slice (some ⟨y.gF, 0, none⟩) N N] := hdep 5 18 (by kernel_rfl) (by kernel_rfl)
        simp [go_sem, t5]
        exact ⟨(Below.refl _ _).alloc (Nat.le_refl _) _, qq, w'.heap.size, rfl, blkA_new 124 w' _, hC.bel.size, fun k hk => by have := ((hC.wr qq.1).lt hk).2; omega, by have := ((hC.fi qq.2).lt _ rfl).2; simp only at this; omega⟩
      | 7, _, ho, hf, hg, hfr, hdep =>
        simp only [gTA, gCZ, gCS, gSI] at ho
        subst ho
        refine ⟨fun _ => ?_, fun hw => absurd (show true = false from hw) (by decide)⟩
        obtain ⟨qq, K, t6, rest⟩ : (d 1 = true ∧ d 4 = true) ∧ ∃ K, ρ (.tmp 19) = .pointer (some ⟨K, 0, none⟩) ∧ BlkA 124 K w' #[.slice y.aA len y.cA, .slice (some ⟨y.H1, 0, none⟩) N N, .slice (some ⟨y.H2, 0, none⟩) N N, .slice none 0 0, .slice (some ⟨y.gF, 0, none⟩) N N] ∧ W1.heap.size ≤ K ∧ (∀ k, WbN N y.aA y.H1 y.H2 y.D1 y.D2 k → k ≠ K) ∧ K ≠ y.gF := hdep 6 19 (by kernel_rfl) (by kernel_rfl)
        simp [go_sem, t6]
        exact ⟨Below.refl _ _, qq, K, rfl, rest⟩
      | n + 8, _, ho, _, _, _, _ => simp at ho
    · intro y d i o ρ w' hm ho h0 hf hg hC hcs hfs hfr hdep
      match i, hm, ho, h0, hf, hg, hfr, hdep with
      | 0, hm, _, _, _, _, _, _ => exact absurd hm (by decide)
      | 1, _, ho, h0, hf, hg, hfr, hdep =>
        simp only [gTA, gCZ, gCS, gSI] at ho
        subst ho
        have t0 : ρ (.tmp 13) = .agg #[.int .i64 (N : Int), .slice a len c] := hdep 0 13 (by kernel_rfl) (by kernel_rfl)
        have CLw := WD.out w' hC.bel
        refine ⟨rfl, ?_⟩
        simp [go_sem, markUpon, t0, hfs]
        refine CLw.mono ?_
        rintro e w'' ⟨aA, cA, H1, H2, D1, D2, E1, E2, rfl, q1, q2, q3, q4, q5⟩
        refine ⟨_, rfl, ⟨aA, cA, H1, H2, D1, D2, E1, E2, y.gF⟩, hC.m1 ⟨q1, q2, q3, q4⟩ q5, ⟨doneAt_eq _ _, by first | rfl | (simp only [HLL.out])⟩, ?_⟩
        intro j t hj hs
        match j, hs with
        | 0, hs => exact hs
        | 1, hs => exact absurd hs.1 (by rw [h0]; decide)
        | 2, hs => exact hs
        | 3, hs => exact hs
        | 4, hs => exact ⟨(doneAt_ne d (by decide)).trans hs.1, hs.2⟩
        | 5, hs => exact absurd hs.1.1 (by rw [h0]; decide)
        | 6, hs => exact absurd hs.1.1 (by rw [h0]; decide)
        | 7, hs => exact absurd hs.1.1 (by rw [h0]; decide)
        | _ + 8, _ => trivial
      | 2, hm, _, _, _, _, _, _ => exact absurd hm (by decide)
      | 3, hm, _, _, _, _, _, _ => exact absurd hm (by decide)
      | 4, _, ho, h0, hf, hg, hfr, hdep =>
        simp only [gTA, gCZ, gCS, gSI] at ho
        subst ho
        have t0 : ρ (.tmp 16) = .int .i64 (N : Int) := hdep 3 16 (by kernel_rfl) (by kernel_rfl)
        refine ⟨rfl, ?_⟩
        simp [go_sem, markUpon, t0, HM.out]
        refine ⟨⟨y.aA, y.cA, y.H1, y.H2, y.D1, y.D2, y.E1, y.E2, w'.heap.size⟩, hC.m4 (by omega), ⟨doneAt_eq _ _, rfl⟩, ?_⟩
        intro j t hj hs
        match j, hs with
        | 0, hs => exact hs
        | 1, hs => exact ⟨(doneAt_ne d (by decide)).trans hs.1, hs.2⟩
        | 2, hs => exact hs
        | 3, hs => exact hs
        | 4, hs => exact absurd hs.1 (by rw [h0]; decide)
        | 5, hs => exact absurd hs.1.2 (by rw [h0]; decide)
        | 6, hs => exact absurd hs.1.2 (by rw [h0]; decide)
        | 7, hs => exact absurd hs.1.2 (by rw [h0]; decide)
        | _ + 8, _ => trivial
      | 5, hm, _, _, _, _, _, _ => exact absurd hm (by decide)
      | 6, hm, _, _, _, _, _, _ => exact absurd hm (by decide)
      | 7, hm, _, _, _, _, _, _ => exact absurd hm (by decide)
      | n + 8, _, ho, _, _, _, _, _ => simp at ho
    · intro y9 V w9 hC9 hS
      obtain ⟨-, K, e7, k1, k2, k3, k4⟩ := hS 7 (by decide) (by intro h; cases h)
      simp only [puts, e7]
      simp only [Act.put, List.setIfInBounds_toArray, List.set_cons_zero, List.set_cons_succ]
      clear hS e7
      have hW := hC9.wr rfl
      have hFi := hC9.fi rfl
      have hDi := hC9.dis rfl rfl
      have hBl := hC9.bel
      have hw1 := B1.out.size
      have LN0 : LN w.heap.size w w9 L N K [] y9.aA y9.cA y9.H1 y9.H2 y9.D1 y9.D2 y9.E1 y9.E2 none 0 y9.gF :=
        ⟨by rw [HLL.out]; exact k1, hW.mono hw1, hFi.mono hw1, CapR.nil _ _, by omega, fun k hk => ⟨k3 k hk, hDi k hk⟩, k4, (fun y hy => by cases hy), B1.out.trans (hBl.mono hw1)⟩
      have HW0 := hiddenN LN0
      have B9 := hiddenN (B1.out.trans (hBl.mono hw1))
      have g1 := (G1.out.below hBl).cell (k := 1) rfl
      simp only [List.getElem_toArray, List.getElem_cons_zero, List.getElem_cons_succ] at g1
      clear hC9 hW hFi hDi hBl LN0 k1 k2 k3 k4 z0 z1 HM WD
      generalize y9.aA = aA at *
      generalize y9.cA = cA at *
      generalize y9.H1 = H1 at *
      generalize y9.H2 = H2 at *
      generalize y9.D1 = D1 at *
      generalize y9.D2 = D2 at *
      generalize y9.E1 = E1 at *
      generalize y9.E2 = E2 at *
      generalize y9.gF = gF at *
      go_wp2
      go_loopg [23] len (fun gk v wr => ∃ (q : Nat) (aT : Option Addr) (cT : Nat), q ≤ len ∧ gk = len - q ∧ v = .int .i64 (q : Int) ∧ LN w.heap.size w wr L N K ((startT n).take q) aA cA H1 H2 D1 D2 E1 E2 aT cT gF)
      case atStart => exact ⟨0, _, _, Nat.zero_le _, rfl, rfl, HW0.out⟩
      case round =>
        clear HW0 B9 g1
        obtain ⟨q, aT, cT, hq, rfl, rfl, hW⟩ := hrel
        have HW := hiddenN hW
        clear hW
        by_cases hlt : q < len
        · have hki : (q : Int) < (len : Int) := by omega
          rcases HA.out.below HW.out.bel with e | ⟨b, off, rfl, hc⟩
          · have := HLL.out; rw [e] at this; simp at this; omega
          obtain ⟨c0, c1, c2, c3, c4⟩ := hc q (by have := HLL.out; omega)
          have TK := hiddenN (HTK.out q hlt)
          have hTl : ((startT n).take q).length = q := by have h1 := HTL.out; rw [List.length_take]; omega
          generalize (startT n).take q = T at *
          generalize (nthNa L q).f = ff at *
          generalize (nthNa L q).t = tt at *
          generalize (nthNa L q).g = gg at *
          generalize (nthNa L q).k = kk at *
          generalize (nthNa L q).s = ss at *
          clear hc
          go_upto_region 8 with fail
          have bc := (Below.refl wr.heap.size wr).alloc (Nat.le_refl _) (.cells #[.int .i64 ff, .int .i64 tt, .int .i64 gg, .int .i64 kk, .int .i64 ss] 53)
          have XA := hiddenN (blkA_new 53 wr #[.int .i64 ff, .int .i64 tt, .int .i64 gg, .int .i64 kk, .int .i64 ss])
          have hVw := HW.out.bel.size
          have LX := hiddenN (HW.out.later bc hVw)
          have LB : Hid (w.heap.size ≤ (wr.alloc (.cells #[.int .i64 ff, .int .i64 tt, .int .i64 gg, .int .i64 kk, .int .i64 ss] 53)).heap.size) := Nat.le_trans hVw bc.size
          have NAT : Hid (∀ y, aT = some y → y.block ≠ wr.heap.size) := fun y hy => by have := (HW.out.tok.lt y hy).2; omega
          obtain ⟨ab, hab'⟩ : ∃ ab, wr.heap.size = ab := ⟨_, rfl⟩
          rw [hab'] at XA NAT ⊢
          generalize wr.alloc (.cells #[.int .i64 ff, .int .i64 tt, .int .i64 gg, .int .i64 kk, .int .i64 ss] 53) = V1 at *
          clear bc c0 c1 c2 c3 c4 hab'
          refine wp_region_gen [8, 11] (fun d i u z => match i with
              | 0 => z = .pointer (some ⟨K, 0, none⟩)
              | 1 => z = .pointer (some ⟨K, 0, none⟩)
              | 2 => z = .pointer (some ⟨K, 0, none⟩)
              | 3 => z = .pointer (some ⟨K, 3, none⟩)
              | 4 => z = .slice aT T.length cT
              | 5 => z = .pointer (some ⟨ab, 4, none⟩)
              | 6 => z = .int .i64 ss
              | 7 => (d 8 = false → ∃ g, z = .slice (some ⟨g, 0, none⟩) 1 1 ∧ u.cell? ⟨g, 0, none⟩ = some (.int .i64 ss))
              | 8 => (d 8 = true ∧ (d 11 = false → ∃ dd cc, z = .slice dd (T.length + 1) cc ∧ GrwN w.heap.size V1 aT (T ++ [ss]) u dd cc))
              | 9 => z = .pointer (some ⟨K, 0, none⟩)
              | 10 => z = .pointer (some ⟨K, 3, none⟩)
              | 11 => True
              | _ => True) (fun d u => (d 8 = false → Below V1.heap.size V1 u) ∧ V1.heap.size ≤ u.heap.size ∧ (d 11 = true → ∃ dd cc, FinT w.heap.size V1 K #[.slice aA L.length cA, .slice (some ⟨H1, 0, none⟩) N N, .slice (some ⟨H2, 0, none⟩) N N, .slice aT T.length cT, .slice (some ⟨gF, 0, none⟩) N N] aT (T ++ [ss]) u dd cc) ∧ (∀ k, k < V1.heap.size → (∀ y, aT = some y → y.block ≠ k) → d 11 = false → u.heap[k]? = V1.heap[k]?)) (by kernel_rfl) (by kernel_rfl) (by kernel_rfl) ?_ ?_ ?_ ?_ ?_ ?_ (by kernel_rfl)
          · intro d i w v w' h hb
            match i, h with
            | 0, h => exact h
            | 1, h => exact h
            | 2, h => exact h
            | 3, h => exact h
            | 4, h => exact h
            | 5, h => exact h
            | 6, h => exact h
            | 7, h => exact fun e => by obtain ⟨g, h1, h2⟩ := h e; exact ⟨g, h1, cellN_later hb h2⟩
            | 8, h => exact ⟨h.1, fun e => by obtain ⟨dd, cc, h1, h2⟩ := h.2 e; exact ⟨dd, cc, h1, h2.later hb⟩⟩
            | 9, h => exact h
            | 10, h => exact h
            | 11, h => exact h
            | _ + 12, _ => trivial
          · intro d u u' h hb
            exact ⟨fun e => (h.1 e).trans (hb.mono (h.1 e).size), Nat.le_trans h.2.1 hb.size, fun e => by obtain ⟨dd, cc, hF⟩ := h.2.2.1 e; exact ⟨dd, cc, hF.later hb⟩, fun k hk hn e => (hb.block k (Nat.lt_of_lt_of_le hk h.2.1)).trans (h.2.2.2 k hk hn e)⟩
          · exact ⟨fun _ => Below.refl _ _, Nat.le_refl _, fun e => absurd e (by decide), fun _ _ _ _ => rfl⟩
          · intro d i o ρ w' hm ho hf hg hC hcs hfs hfr hdep
            match i, hm, ho, hf, hg, hfr, hdep with
            | 0, _, ho, hf, hg, hfr, hdep =>
              simp only [gTA, gCZ, gSI] at ho
              subst ho
              refine ⟨fun _ => ?_, fun hw => absurd (show true = false from hw) (by decide)⟩
              have ts : ρ (.tmp 5) = .pointer (some ⟨K, 0, none⟩) := hfr 5 (by kernel_rfl)
              simp [go_sem, ts]
              exact ⟨Below.refl _ _, rfl⟩
            | 1, _, ho, hf, hg, hfr, hdep =>
              simp only [gTA, gCZ, gCS, gSI] at ho
              subst ho
              refine ⟨fun _ => ?_, fun hw => absurd (show true = false from hw) (by decide)⟩
              have ts : ρ (.tmp 5) = .pointer (some ⟨K, 0, none⟩) := hfr 5 (by kernel_rfl)
              simp [go_sem, ts]
              exact ⟨Below.refl _ _, rfl⟩
            | 2, _, ho, hf, hg, hfr, hdep =>
              simp only [gTA, gCZ, gCS, gSI] at ho
              subst ho
              refine ⟨fun _ => ?_, fun hw => absurd (show true = false from hw) (by decide)⟩
              have d0 : ρ (.tmp 28) = .pointer (some ⟨K, 0, none⟩) := hdep 1 28 (by kernel_rfl) (by kernel_rfl)
              simp [go_sem, d0]
              exact ⟨Below.refl _ _, rfl⟩
            | 3, _, ho, hf, hg, hfr, hdep =>
              simp only [gTA, gCZ, gCS, gSI] at ho
              subst ho
              refine ⟨fun _ => ?_, fun hw => absurd (show true = false from hw) (by decide)⟩
              have d0 : ρ (.tmp 29) = .pointer (some ⟨K, 0, none⟩) := hdep 2 29 (by kernel_rfl) (by kernel_rfl)
              simp [go_sem, d0]
              exact ⟨Below.refl _ _, rfl⟩
            | 4, _, ho, hf, hg, hfr, hdep =>
              simp only [gTA, gCZ, gCS, gSI] at ho
              subst ho
              refine ⟨fun _ => ?_, fun hw => absurd (show true = false from hw) (by decide)⟩
              have h8 : d 8 = false := hf 8 (by decide) (by kernel_rfl)
              have cc : w'.cell? ⟨K, 3, none⟩ = some (.slice aT T.length cT) := (LX.out.blk.below (hC.1 h8)).cell rfl
              have d0 : ρ (.tmp 30) = .pointer (some ⟨K, 3, none⟩) := hdep 3 30 (by kernel_rfl) (by kernel_rfl)
              simp [go_sem, d0, cc]
              exact ⟨Below.refl _ _, rfl⟩
            | 5, _, ho, hf, hg, hfr, hdep =>
              simp only [gTA, gCZ, gCS, gSI] at ho
              subst ho
              refine ⟨fun _ => ?_, fun hw => absurd (show true = false from hw) (by decide)⟩
              have ts : ρ (.tmp 7) = .pointer (some ⟨ab, 0, none⟩) := hfr 7 (by kernel_rfl)
              simp [go_sem, ts]
              exact ⟨Below.refl _ _, rfl⟩
            | 6, _, ho, hf, hg, hfr, hdep =>
              simp only [gTA, gCZ, gCS, gSI] at ho
              subst ho
              refine ⟨fun _ => ?_, fun hw => absurd (show true = false from hw) (by decide)⟩
              have h11 : d 11 = false := hf 11 (by decide) (by kernel_rfl)
              have cc : w'.cell? ⟨ab, 4, none⟩ = some (.int .i64 ss) := (XA.out.keep (hC.2.2.2 ab XA.out.lt NAT.out h11)).cell rfl
              have d0 : ρ (.tmp 32) = .pointer (some ⟨ab, 4, none⟩) := hdep 5 32 (by kernel_rfl) (by kernel_rfl)
              simp [go_sem, d0, cc]
              exact ⟨Below.refl _ _, rfl⟩
            | 7, _, ho, hf, hg, hfr, hdep =>
              simp only [gTA, gCZ, gCS, gSI] at ho
              subst ho
              refine ⟨fun _ => ?_, fun hw => absurd (show true = false from hw) (by decide)⟩
              have t0 : ρ (.tmp 33) = .int .i64 ss := hdep 6 33 (by kernel_rfl) (by kernel_rfl)
              simp [go_sem, t0]
              exact ⟨(Below.refl _ _).alloc (Nat.le_refl _) _, fun _ => ⟨w'.heap.size, rfl, by simp⟩⟩
            | 8, hm, _, _, _, _, _ => exact absurd hm (by decide)
            | 9, _, ho, hf, hg, hfr, hdep =>
              simp only [gTA, gCZ, gCS, gSI] at ho
              subst ho
              refine ⟨fun _ => ?_, fun hw => absurd (show true = false from hw) (by decide)⟩
              have d0 : ρ (.tmp 27) = .pointer (some ⟨K, 0, none⟩) := hdep 0 27 (by kernel_rfl) (by kernel_rfl)
              simp [go_sem, d0]
              exact ⟨Below.refl _ _, rfl⟩
            | 10, _, ho, hf, hg, hfr, hdep =>
              simp only [gTA, gCZ, gCS, gSI] at ho
              subst ho
              refine ⟨fun _ => ?_, fun hw => absurd (show true = false from hw) (by decide)⟩
              have d0 : ρ (.tmp 36) = .pointer (some ⟨K, 0, none⟩) := hdep 9 36 (by kernel_rfl) (by kernel_rfl)
              simp [go_sem, d0]
              exact ⟨Below.refl _ _, rfl⟩
            | 11, hm, _, _, _, _, _ => exact absurd hm (by decide)
            | n + 12, _, ho, _, _, _, _ => simp at ho
          · intro d i o ρ w' hm ho h0 hf hg hC hcs hfs hfr hdep
            match i, hm, ho, h0, hf, hg, hfr, hdep with
            | 0, hm, _, _, _, _, _, _ => exact absurd hm (by decide)
            | 1, hm, _, _, _, _, _, _ => exact absurd hm (by decide)
            | 2, hm, _, _, _, _, _, _ => exact absurd hm (by decide)
            | 3, hm, _, _, _, _, _, _ => exact absurd hm (by decide)
            | 4, hm, _, _, _, _, _, _ => exact absurd hm (by decide)
            | 5, hm, _, _, _, _, _, _ => exact absurd hm (by decide)
            | 6, hm, _, _, _, _, _, _ => exact absurd hm (by decide)
            | 7, hm, _, _, _, _, _, _ => exact absurd hm (by decide)
            | 8, _, ho, h0, hf, hg, hfr, hdep =>
              simp only [gTA, gCZ, gCS, gSI] at ho
              subst ho
              have t0 : ρ (.tmp 31) = .slice aT T.length cT := hdep 4 31 (by kernel_rfl) (by kernel_rfl)
              obtain ⟨g, t1, cg⟩ : ∃ g, ρ (.tmp 34) = .slice (some ⟨g, 0, none⟩) 1 1 ∧ w'.cell? ⟨g, 0, none⟩ = some (.int .i64 ss) := hdep 7 34 (by kernel_rfl) (by kernel_rfl) h0
              have h11 : d 11 = false := hf 11 (by decide) (by kernel_rfl)
              refine ⟨rfl, mark_appN (.tmp 31) (.tmp 34) rfl t0 t1 LX.out.tok (hC.1 h0) cg (by omega) LB.out ?_⟩
              intro u9 d9 c9 hG
              refine ⟨⟨fun e => absurd e (by rw [doneAt_eq]; decide), hG.size, fun e => absurd ((doneAt_ne d (by decide)).symm.trans e) (by rw [h11]; decide), fun k hk hn _ => hG.keep k hk hn⟩, fun _ => ⟨doneAt_eq _ _, fun _ => ⟨d9, c9, rfl, hG⟩⟩, ?_⟩
              intro j t hj hs
              match j, hs with
              | 0, hs => exact hs
              | 1, hs => exact hs
              | 2, hs => exact hs
              | 3, hs => exact hs
              | 4, hs => exact hs
              | 5, hs => exact hs
              | 6, hs => exact hs
              | 7, hs => exact fun e => absurd e (by rw [doneAt_eq]; decide)
              | 8, hs => exact absurd hs.1 (by rw [h0]; decide)
              | 9, hs => exact hs
              | 10, hs => exact hs
              | 11, _ => trivial
              | _ + 12, _ => trivial
            | 9, hm, _, _, _, _, _, _ => exact absurd hm (by decide)
            | 10, hm, _, _, _, _, _, _ => exact absurd hm (by decide)
            | 11, _, ho, h0, hf, hg, hfr, hdep =>
              simp only [gTA, gCZ, gCS, gSI] at ho
              subst ho
              have t0 : ρ (.tmp 37) = .pointer (some ⟨K, 3, none⟩) := hdep 10 37 (by kernel_rfl) (by kernel_rfl)
              have t9 : d 8 = true ∧ (d 11 = false → ∃ dd cc, ρ (.tmp 35) = .slice dd (T.length + 1) cc ∧ GrwN w.heap.size V1 aT (T ++ [ss]) w' dd cc) := hdep 8 35 (by kernel_rfl) (by kernel_rfl)
              obtain ⟨dd, cc, e9, hG⟩ := t9.2 h0
              have hbk := LX.out.blk.keep (hG.keep K LX.out.blk.lt (fun y hy => (LX.out.tk y hy).1))
              have c1 : w'.cell? ⟨K, 3, none⟩ = some (.slice aT T.length cT) := hbk.cell rfl
              have f1 := hbk.frozen 3
              refine ⟨rfl, markUpon_skip (w' := w'.setCell ⟨K, 3, none⟩ (.slice dd (T.length + 1) cc)) (by simp [go_sem, t0, e9, c1, f1]) ?_⟩
              have hF := finT_of LX.out.blk (fun y hy => (LX.out.tk y hy).1) hG
              rw [List.length_append] at hF
              refine ⟨⟨fun e => absurd ((doneAt_ne d (by decide)).symm.trans e) (by rw [t9.1]; decide), by rw [World.size_setCell]; exact hG.size, fun _ => ⟨dd, cc, hF⟩, fun _ _ _ e => absurd e (by rw [doneAt_eq]; decide)⟩, fun h => absurd rfl h, ?_⟩
              intro j t hj hs
              match j, hs with
              | 0, hs => exact hs
              | 1, hs => exact hs
              | 2, hs => exact hs
              | 3, hs => exact hs
              | 4, hs => exact hs
              | 5, hs => exact hs
              | 6, hs => exact hs
              | 7, hs => exact fun e => absurd ((doneAt_ne d (by decide)).symm.trans e) (by rw [t9.1]; decide)
              | 8, hs => exact ⟨(doneAt_ne d (by decide)).trans hs.1, fun e => absurd e (by rw [doneAt_eq]; decide)⟩
              | 9, hs => exact hs
              | 10, hs => exact hs
              | 11, _ => trivial
              | _ + 12, _ => trivial
            | n + 12, _, ho, _, _, _, _, _ => simp at ho
          · intro V w8 hC8 hS
            simp only [puts, put_none]
            simp only [Act.put, List.setIfInBounds_toArray, List.set_cons_zero, List.set_cons_succ]
            clear hS 
            obtain ⟨dd, cc, hF⟩ := hC8.2.2.1 rfl
            have LX3 := hiddenN (LX.out.step LB.out hF)
            rw [TK.out] at LX3
            clear hC8 hF LX XA LB
            go_wp2
            go_roundg (len - (q + 1))
            case measure => omega
            case rel => exact ⟨q + 1, _, _, by omega, rfl, by go_num, LX3.out⟩
        · have ek : q = len := by omega
          subst ek
          have hki : ¬ (q : Int) < (q : Int) := by omega
          rw [HTA.out] at HW
          have FI := hiddenN (HFIN.out wr K _ _ _ _ _ _ _ _ _ _ _ HW.out)
          have BL := hiddenN HW.out.bel
          clear HW HFIN
          go_wp2
          rw [← HNE.out]
          unfold NewE
          rw [if_pos HC0.out, HNN.out]
          exact ⟨K, wr.heap.size, rfl, ⟨_, _, _, _, _, _, _, _, _, _, _, FI.out⟩, BL.out⟩
  · have eE : NewE n w = fun e w' => e = .returned (.tuple #[.pointer none, .int .i64 (checkN n)]) ∧ Below w.heap.size w w' := by
      funext e w'
      unfold NewE
      rw [if_neg hc0]
    rw [eE]
    clear eE
    have b0 := (Below.refl w.heap.size w).alloc (Nat.le_refl _) (.cells #[.int .i64 n.nodes, .slice a n.arcs.length c] 24)
    have G0 := blkA_new 24 w #[.int .i64 n.nodes, .slice a n.arcs.length c]
    have z0 := G0.cell (k := 0) rfl
    have z1 := G0.cell (k := 1) rfl
    simp only [List.getElem_toArray, List.getElem_cons_zero, List.getElem_cons_succ] at z0 z1
    have B0 := hiddenN b0
    have CK1 := hiddenN (CK.out _ b0)
    clear CK G0 b0
    go_enter Tryz.func62, Tryz.ntmps62
    go_upto_region 1 with fail
    generalize w.alloc (.cells #[.int .i64 n.nodes, .slice a n.arcs.length c] 24) = W0 at *
    go_wp2_with (go_at_call 81; (with_reducible refine CK1.out.mono ?_); rintro e W1 ⟨rfl, b1⟩; have B1 := hiddenN (B0.out.trans (b1.mono B0.out.size)); clear b1)
    go_ret2
    exact ⟨rfl, B1.out⟩
theorem drewB {B : Nat} {a w : World} (h : Below B a w) (n : Nat) : Below B a (w.drewN n) := h.trans ⟨rfl, rfl, rfl, Nat.le_refl _, fun _ _ => rfl⟩
theorem at_alloc2 (U : World) (x y : Int) : At (U.alloc (.cells #[.int .i64 x, .int .i64 y] 3)) (some ⟨U.heap.size, 0, none⟩) [x, y] := by
  have b := blkA_new 3 U #[.int .i64 x, .int .i64 y]
  refine .inr ⟨U.heap.size, 0, rfl, fun k hk => ?_⟩
  match k, hk with
  | 0, _ => exact b.cell rfl
  | 1, _ => exact b.cell rfl
theorem at_alloc1 (U : World) (x : Int) : At (U.alloc (.cells #[.int .i64 x] 3)) (some ⟨U.heap.size, 0, none⟩) [x] := by
  have b := blkA_new 3 U #[.int .i64 x]
  refine .inr ⟨U.heap.size, 0, rfl, fun k hk => ?_⟩
  match k, hk with
  | 0, _ => exact b.cell rfl
end Go.Proofs.YtimioiaoefhabaaGreat
