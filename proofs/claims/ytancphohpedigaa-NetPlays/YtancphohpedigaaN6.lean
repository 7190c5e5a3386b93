/- net.wired. (Written by tmpl/mkN6.py.) -/
import Derived.Test.YtancphohpedigaaN5
import Derived.Test.YtancphohpedigaaGS2
namespace Go.Proofs.Ytancphohpedigaa
open Go.ChangeShapes Go.WideShapes Go.ChangeAt Go.RowKit

/-- What is made while the wiring is laid out: the copy of the arcs, three blocks. -/
structure GhW where
  a : Option Addr
  c : Nat
  F : Nat → Nat
def is3 (j : Nat) : Prop := j = 5 ∨ j = 8 ∨ j = 10
structure CW (V : World) (L : List NA) (N : Nat) (y : GhW) (d : Nat → Bool) (u : World) : Prop where
  bel : Below V.heap.size V u
  arcs : d 2 = true → AtN u y.a L ∧ ∀ x, y.a = some x → V.heap.size ≤ x.block ∧ x.block < u.heap.size ∧ ∀ j, d j = true → is3 j → x.block ≠ y.F j
  rng : ∀ j, d j = true → is3 j → V.heap.size ≤ y.F j ∧ y.F j < u.heap.size
  dis : ∀ i j, d i = true → d j = true → is3 i → is3 j → i ≠ j → y.F i ≠ y.F j
  t5 : d 5 = true → u.rowIs (y.F 5) 45 N (fun _ => .slice none 0 0)
  t8 : d 8 = true → u.rowIs (y.F 8) 45 N (fun _ => .slice none 0 0)
  t10 : d 10 = true → BlkA 69 (y.F 10) u (if d 11 = true then #[.slice y.a L.length y.c, .slice (some ⟨y.F 5, 0, none⟩) N N, .slice (some ⟨y.F 8, 0, none⟩) N N] else #[.slice none 0 0, .slice none 0 0, .slice none 0 0])
theorem CW.start (V : World) (L : List NA) (N : Nat) (y : GhW) : CW V L N y (fun _ => false) V :=
  ⟨Below.refl _ _, (fun h => by cases h), (fun _ h => by cases h), (fun _ _ h => by cases h), (fun h => by cases h), (fun h => by cases h), (fun h => by cases h)⟩
theorem CW.later {V u u' : World} {L : List NA} {N : Nat} {y : GhW} {d : Nat → Bool} (h : CW V L N y d u) (hb : Below u.heap.size u u') : CW V L N y d u' := by
  have hs := hb.size
  refine ⟨h.bel.trans (hb.mono h.bel.size), fun e => ?_, fun j e hj => ?_, h.dis, fun e => (h.t5 e).of_block (hb.block _ (h.t5 e).lt), fun e => (h.t8 e).of_block (hb.block _ (h.t8 e).lt), fun e => (h.t10 e).below hb⟩
  · obtain ⟨h1, h2⟩ := h.arcs e
    exact ⟨h1.below hb, fun x hx => ⟨(h2 x hx).1, Nat.lt_of_lt_of_le (h2 x hx).2.1 hs, (h2 x hx).2.2⟩⟩
  · have := h.rng j e hj
    exact ⟨this.1, by omega⟩
theorem doneAt_eq (d : Nat → Bool) (i : Nat) : doneAt d i i = true := by unfold doneAt; rw [if_pos rfl]
theorem doneAt_ne (d : Nat → Bool) {i j : Nat} (h : j ≠ i) : doneAt d i j = d j := by unfold doneAt; rw [if_neg h]
theorem CW.m2 {V u u' : World} {L : List NA} {N : Nat} {y : GhW} {d : Nat → Bool} {a : Option Addr} {c : Nat} (h : CW V L N y d u) (h11 : d 11 = false) (h1 : AtN u' a L) (h2 : ∀ x, a = some x → u.heap.size ≤ x.block ∧ x.block < u'.heap.size) (hb : Below u.heap.size u u') : CW V L N ⟨a, c, y.F⟩ (doneAt d 2) u' := by
  have g := h.later hb
  have hs := h.bel.size
  have d11 : doneAt d 2 11 = false := (doneAt_ne d (by decide)).trans h11
  have t10 := g.t10
  rw [h11] at t10
  have k3 : ∀ j, doneAt d 2 j = true → is3 j → d j = true := fun j hj h3 => by
    rw [doneAt_ne d (by rcases h3 with rfl | rfl | rfl <;> decide)] at hj; exact hj
  refine ⟨g.bel, fun _ => ⟨h1, fun x hx => ⟨by have := (h2 x hx).1; omega, (h2 x hx).2, fun j hj h3 => ?_⟩⟩, fun j hj h3 => g.rng j (k3 j hj h3) h3, fun i j hi hj i3 j3 => g.dis i j (k3 i hi i3) (k3 j hj j3) i3 j3, g.t5, g.t8, ?_⟩
  · have q1 := (h.rng j (k3 j hj h3) h3).2
    have q2 := (h2 x hx).1
    show x.block ≠ y.F j
    omega
  · rw [d11]; exact t10
theorem CW.made {V u : World} {L : List NA} {N : Nat} {y : GhW} {d : Nat → Bool} (i : Nat) (o : Obj) (hi : is3 i) (h : CW V L N y d u) (h0 : d i = false) (h11 : d 11 = false)
    (h5 : i = 5 → (u.alloc o).rowIs u.heap.size 45 N (fun _ => .slice none 0 0)) (h8 : i = 8 → (u.alloc o).rowIs u.heap.size 45 N (fun _ => .slice none 0 0)) (h10 : i = 10 → BlkA 69 u.heap.size (u.alloc o) #[.slice none 0 0, .slice none 0 0, .slice none 0 0]) : CW V L N ⟨y.a, y.c, upd y.F i u.heap.size⟩ (doneAt d i) (u.alloc o) := by
  have hb : Below u.heap.size u (u.alloc o) := (Below.refl _ _).alloc (Nat.le_refl _) o
  have g := h.later hb
  have hs := h.bel.size
  have hsz : (u.alloc o).heap.size = u.heap.size + 1 := World.size_alloc _ _
  have n2 : (2 : Nat) ≠ i := by rcases hi with rfl | rfl | rfl <;> decide
  have n11 : (11 : Nat) ≠ i := by rcases hi with rfl | rfl | rfl <;> decide
  have d11 : doneAt d i 11 = false := (doneAt_ne d n11).trans h11
  have t10 := g.t10
  rw [h11] at t10
  have old : ∀ j, doneAt d i j = true → j ≠ i → d j = true := fun j hj hne => by rw [doneAt_ne d hne] at hj; exact hj
  refine ⟨g.bel, fun h2 => ?_, fun j hj h3 => ?_, fun p q hp hq p3 q3 hne => ?_, fun h5' => ?_, fun h8' => ?_, fun h10' => ?_⟩
  · rw [doneAt_ne d n2] at h2
    obtain ⟨q1, q2⟩ := g.arcs h2
    refine ⟨q1, fun x hx => ⟨(q2 x hx).1, (q2 x hx).2.1, fun j hj h3 => ?_⟩⟩
    by_cases e : j = i
    · subst e
      show x.block ≠ upd y.F j u.heap.size j
      rw [upd_eq]
      have := ((h.arcs h2).2 x hx).2.1
      omega
    · show x.block ≠ upd y.F i u.heap.size j
      rw [upd_ne e]
      exact (q2 x hx).2.2 j (old j hj e) h3
  · by_cases e : j = i
    · subst e
      show V.heap.size ≤ upd y.F j u.heap.size j ∧ upd y.F j u.heap.size j < _
      rw [upd_eq, hsz]; omega
    · show V.heap.size ≤ upd y.F i u.heap.size j ∧ upd y.F i u.heap.size j < _
      rw [upd_ne e]; exact g.rng j (old j hj e) h3
  · show upd y.F i u.heap.size p ≠ upd y.F i u.heap.size q
    by_cases e : p = i
    · subst e
      rw [upd_eq, upd_ne (Ne.symm hne)]
      have := (h.rng q (old q hq (Ne.symm hne)) q3).2
      omega
    · rw [upd_ne e]
      by_cases e2 : q = i
      · subst e2
        rw [upd_eq]
        have := (h.rng p (old p hp e) p3).2
        omega
      · rw [upd_ne e2]
        exact g.dis p q (old p hp e) (old q hq e2) p3 q3 hne
  · by_cases e : (5 : Nat) = i
    · show (u.alloc o).rowIs (upd y.F i u.heap.size 5) 45 N _
      rw [← e, upd_eq]; exact h5 e.symm
    · show (u.alloc o).rowIs (upd y.F i u.heap.size 5) 45 N _
      rw [upd_ne e]; exact g.t5 (old 5 h5' e)
  · by_cases e : (8 : Nat) = i
    · show (u.alloc o).rowIs (upd y.F i u.heap.size 8) 45 N _
      rw [← e, upd_eq]; exact h8 e.symm
    · show (u.alloc o).rowIs (upd y.F i u.heap.size 8) 45 N _
      rw [upd_ne e]; exact g.t8 (old 8 h8' e)
  · rw [d11]
    by_cases e : (10 : Nat) = i
    · show BlkA 69 (upd y.F i u.heap.size 10) (u.alloc o) _
      rw [← e, upd_eq]; exact h10 e.symm
    · show BlkA 69 (upd y.F i u.heap.size 10) (u.alloc o) _
      rw [upd_ne e]; exact t10 (old 10 h10' e)
theorem CW.m11 {V u u' : World} {L : List NA} {N : Nat} {y : GhW} {d : Nat → Bool} (h : CW V L N y d u) (h2 : d 2 = true) (h5 : d 5 = true) (h8 : d 8 = true) (h10 : d 10 = true)
    (hb : But (y.F 10) u u') (hs : BlkA 69 (y.F 10) u' #[.slice y.a L.length y.c, .slice (some ⟨y.F 5, 0, none⟩) N N, .slice (some ⟨y.F 8, 0, none⟩) N N]) : CW V L N y (doneAt d 11) u' := by
  have i5 : is3 5 := .inl rfl
  have i8 : is3 8 := .inr (.inl rfl)
  have i10 : is3 10 := .inr (.inr rfl)
  have k : ∀ j, is3 j → doneAt d 11 j = true → d j = true := fun j h3 hj => by
    rw [doneAt_ne d (by rcases h3 with rfl | rfl | rfl <;> decide)] at hj; exact hj
  obtain ⟨a1, a2⟩ := h.arcs h2
  refine ⟨h.bel.trans (hb.below (h.rng 10 h10 i10).1 h.bel.size), fun _ => ⟨a1.keep fun x hx => hb.block _ (a2 x hx).2.1 ((a2 x hx).2.2 10 h10 i10), fun x hx => ⟨(a2 x hx).1, Nat.lt_of_lt_of_le (a2 x hx).2.1 hb.size, fun j hj h3 => (a2 x hx).2.2 j (k j h3 hj) h3⟩⟩, fun j hj h3 => ?_, fun p q hp hq p3 q3 => h.dis p q (k p p3 hp) (k q q3 hq) p3 q3, fun _ => (h.t5 h5).of_block (hb.block _ (h.t5 h5).lt (h.dis 5 10 h5 h10 i5 i10 (by decide))), fun _ => (h.t8 h8).of_block (hb.block _ (h.t8 h8).lt (h.dis 8 10 h8 h10 i8 i10 (by decide))), fun _ => ?_⟩
  · have := h.rng j (k j h3 hj) h3
    exact ⟨this.1, Nat.lt_of_lt_of_le this.2 hb.size⟩
  · rw [doneAt_eq, if_pos rfl]; exact hs
theorem mark_storeN {w : World} {o : Oper} {ρ : Operand → Value} (ty : TypeId) (x y : Operand) (ho : o.op = .store ty x y) (b : Nat) (S : TypeId) (old cells : Array Value) (hx : ρ x = .pointer (some ⟨b, 0, none⟩)) (hy : ρ y = .agg cells) (hB : BlkA S b w old) (hi : (Try.prog.info? ty).map (·.size) = some cells.size) (hold : old.size = cells.size) (h1 : cells.toList.all (·.oneCell') = true)
    {Q : World → Value → Prop} (h : ∀ w', BlkA S b w' cells → But b w w' → Q w' undef) : markUpon Try.prog w Q ((execOp ρ o).run Try.prog w) := by
  have hr := run_storeVar_row (P := Try.prog) w b S ty old cells hB hi hold (by rw [← Array.all_toList]; exact h1)
  unfold execOp
  simp only [ho, hx, hy, Instr.storeAt, Instr.sureAddr, Sem.run_bind, Sem.run_pure, Result.andThen_ok, hr]
  exact h _ (setRow_heap w b old cells S _ hB) (setRow_but w b cells)
theorem Try.infoSN : (Try.prog.info? 45).map (fun i => (i.zero, i.size, i.bytes)) = some (some (.slice none 0 0), 1, 24) := by kernel_rfl
theorem sizWir : (Try.prog.info? 69).map (·.size) = some 3 := by kernel_rfl
/-- A row that has grown by one number; what else has stayed. -/
structure GrwN (B : Nat) (V : World) (d0 : Option Addr) (L : List Int) (u : World) (d : Option Addr) (c : Nat) : Prop where
  own : CapR B u d c L
  keep : ∀ k, k < V.heap.size → (∀ y, d0 = some y → y.block ≠ k) → u.heap[k]? = V.heap[k]?
  new : ∀ z, d = some z → d0 = some z ∨ V.heap.size ≤ z.block
  size : V.heap.size ≤ u.heap.size
  os : u.os = V.os
  tape : u.tape = V.tape
  output : u.output = V.output
theorem GrwN.later {B : Nat} {V u u' : World} {d0 : Option Addr} {L : List Int} {d : Option Addr} {c : Nat} (h : GrwN B V d0 L u d c) (hb : Below u.heap.size u u') : GrwN B V d0 L u' d c :=
  ⟨h.own.later hb, fun k hk hn => (hb.block k (Nat.lt_of_lt_of_le hk h.size)).trans (h.keep k hk hn), h.new, Nat.le_trans h.size hb.size, hb.os.trans h.os, hb.tape.trans h.tape, hb.output.trans h.output⟩
theorem mark_appN {V w : World} {o : Oper} {ρ : Operand → Value} (s x : Operand) (ho : o.op = .call { callee := .builtin .append, args := #[s, x], argTypes := #[45, 45] }) {B g c0 : Nat} {d0 : Option Addr} {zs : List Int} {i : Int} (hs : ρ s = .slice d0 zs.length c0) (hx : ρ x = .slice (some ⟨g, 0, none⟩) 1 1) (hown : CapR B V d0 c0 zs) (hb : Below V.heap.size V w) (hc : w.cell? ⟨g, 0, none⟩ = some (.int .i64 i)) (hn : zs.length ≤ 1000000) (hB : B ≤ V.heap.size)
    {T : World → Value → Prop} (h : ∀ u d c, GrwN B V d0 (zs ++ [i]) u d c → T u (.slice d (zs.length + 1) c)) : markUpon Try.prog w T ((execOp ρ o).run Try.prog w) := by
  obtain ⟨i1, hi1, hy0, hy1, hy2⟩ := info_parts Try.info3
  have hown2 : CapR B w d0 c0 zs := hown.later hb
  obtain ⟨v', w', hr, h2, h3⟩ := run_append_told (P := Try.prog) w B 45 o.type 3 i1 (.int .i64 0) 1 8 Try.underlying45 hi1 hy0 hy1 hy2 rfl (by decide) (.slice d0 zs.length c0) zs.length _ hown2 ⟨g, 0, none⟩ 1 1 (by decide) [.int .i64 i] rfl (fun j u hu => by
    match j, hu with
    | 0, hu =>
      simp at hu
      subst hu
      simpa [Addr.add] using hc) (fun u hu => by simp at hu; subst hu; rfl) (by unfold maxLen; omega) (by omega) (Nat.le_trans hB hb.size)
  have h2' : w'.ownsRow B 3 1 v' (zs ++ [i]).length ((zs ++ [i]).map (Value.int .i64)) := by simpa using h2
  unfold execOp
  simp only [ho, resolve, invoke, builtin, Sem.run_bind, Sem.run_pure, Result.andThen_ok, List.map_toArray, List.map_cons, List.map_nil, hs, hx, hr]
  rcases h3 with ⟨g1, cap, e1, rfl, hg⟩ | ⟨cap, rfl, hg⟩
  · cases e1
    refine h w' _ _ ⟨by unfold CapR; simpa using h2', fun k hk hne => ?_, fun z hz => .inl hz, Nat.le_trans hb.size hg.size, hg.os.trans hb.os, hg.tape.trans hb.tape, hg.output.trans hb.output⟩
    exact (hg.block k (Nat.lt_of_lt_of_le hk hb.size) (fun e => by cases e; exact hne _ rfl rfl)).trans (hb.block k hk)
  · refine h w' _ _ ⟨by unfold CapR; simpa using h2', fun k hk hne => ?_, fun z hz => by cases hz; exact .inr hb.size, Nat.le_trans hb.size hg.size, hg.os.trans hb.os, hg.tape.trans hb.tape, hg.output.trans hb.output⟩
    exact (hg.block k (Nat.lt_of_lt_of_le hk hb.size) (fun e => by cases e)).trans (hb.block k hk)
end Go.Proofs.Ytancphohpedigaa
