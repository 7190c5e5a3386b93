/- Texts of one chain, laid one behind the other. -/
import Derived.Test.YtolpelfdhcccnaaGreatDoorPartSourceParses18
import Derived.Test.YtolpelfdhcccnaaGreatDoorPartSourceParses4
import Derived.Recover
import Derived.Laws.AppendOwnNone
namespace Go.Proofs.YtolpelfdhcccnaaGreatDoor
open Go.ChangeShapes Go.WideShapes Go.ChangeAt Go.RowKit
/-- The panic that gives up a token that may not stand there. -/
def tokPanic : List PanicEntry := [{ v := .iface 31 (.int .i64 50), recovered := false }]
/-- The parser stands at a token. -/
structure Par (P : Nat) (v : Value) (ts : List Tok) (i : Nat) (w : World) : Prop where
  here : w.heap[P]? = some (.cells #[v, .int .i64 (i : Int)] 93 (0, 0))
  row : ∃ g cap, v = .slice (some ⟨g, 0, none⟩) ts.length cap ∧ g ≠ P ∧ g < w.heap.size ∧ ∀ k, k < ts.length → Cell4 w g (k * 4) (nthT ts k)
theorem Par.c0 {P v ts i w} (h : Par P v ts i w) : w.cell? ⟨P, 0, none⟩ = some v := by simp [World.cell?, h.here]
theorem Par.c1 {P v ts i w} (h : Par P v ts i w) : w.cell? ⟨P, 1, none⟩ = some (.int .i64 (i : Int)) := by simp [World.cell?, h.here]
theorem Par.f1 {P v ts i w} (h : Par P v ts i w) : w.frozen? ⟨P, 1, none⟩ = false := by simp [World.frozen?, h.here]
theorem Par.lt {P v ts i w} (h : Par P v ts i w) : P < w.heap.size := (Array.getElem?_eq_some_iff.1 h.here).1
theorem Cell4.block {w w' g o t} (h : Cell4 w g o t) (e : w'.heap[g]? = w.heap[g]?) : Cell4 w' g o t := by
  have f : ∀ o, w'.cell? ⟨g, o, none⟩ = w.cell? ⟨g, o, none⟩ := fun o => by unfold World.cell?; rw [e]
  exact ⟨(f _).trans h.c0, (f _).trans h.c1, (f _).trans h.c2, (f _).trans h.c3⟩
theorem Par.moved {P v ts} {i j : Nat} {w w'} (h : Par P v ts i w) (hg : w.grownBy w' (some P)) (hh : w'.heap[P]? = some (.cells #[v, .int .i64 (j : Int)] 93 (0, 0))) : Par P v ts j w' := by
  refine ⟨hh, ?_⟩
  obtain ⟨g, cap, hv, hne, hlt, hc⟩ := h.row
  exact ⟨g, cap, hv, hne, Nat.lt_of_lt_of_le hlt hg.size, fun k hk => (hc k hk).block (hg.block g hlt (fun e => hne (Option.some.inj e)))⟩
theorem Par.below {P v ts i w w'} (h : Par P v ts i w) (hb : Below w.heap.size w w') : Par P v ts i w' := by
  refine ⟨(hb.block _ h.lt).trans h.here, ?_⟩
  obtain ⟨g, cap, hv, hne, hlt, hc⟩ := h.row
  exact ⟨g, cap, hv, hne, Nat.lt_of_lt_of_le hlt hb.size, fun k hk => (hc k hk).block (hb.block g hlt)⟩
theorem Par.alloc {P v ts i w} (h : Par P v ts i w) (o : Obj) : Par P v ts i (w.alloc o) := h.below ((Below.refl _ _).alloc (Nat.le_refl _) _)
/-- The parser has gone on to a token, and nothing else is changed that was there. -/
structure Goes (P : Nat) (v : Value) (ts : List Tok) (j : Nat) (W w' : World) : Prop where
  par : Par P v ts j w'
  grown : W.grownBy w' (some P)
theorem Goes.trans {P v ts j k W w1 w2} (h : Goes P v ts j W w1) (h2 : Goes P v ts k w1 w2) : Goes P v ts k W w2 := ⟨h2.par, Lib.grownBy_trans h.grown h2.grown⟩
theorem below_grows {W w' : World} (h : Below W.heap.size W w') (P : Option Nat) : W.grownBy w' P := ⟨h.os, h.tape, h.output, h.size, fun k hk _ => h.block k hk⟩
theorem Goes.stay {P v ts i W w'} (h : Par P v ts i W) (hb : Below W.heap.size W w') : Goes P v ts i W w' := ⟨h.below hb, below_grows hb _⟩
theorem Goes.refl {P v ts i W} (h : Par P v ts i W) : Goes P v ts i W W := Goes.stay h (Below.refl _ _)
theorem Goes.later {P v ts j W w1 w2} (h : Goes P v ts j W w1) (hb : Below w1.heap.size w1 w2) : Goes P v ts j W w2 := h.trans (Goes.stay h.par hb)
theorem below_put4 {w w1 : World} {n : Nat} {x y z u : Value} (h : Below w.heap.size w w1) (hn : w.heap.size ≤ n) : Below w.heap.size w ((((w1.setCell ⟨n, 0, none⟩ x).setCell ⟨n, 1, none⟩ y).setCell ⟨n, 2, none⟩ z).setCell ⟨n, 3, none⟩ u) :=
  (((h.setCell (p := ⟨n, 0, none⟩) hn x).setCell (p := ⟨n, 1, none⟩) hn y).setCell (p := ⟨n, 2, none⟩) hn z).setCell (p := ⟨n, 3, none⟩) hn u
set_option maxHeartbeats 2000000 in
theorem ahead_at (P : Nat) (v : Value) (ts : List Tok) (q : Nat) (W : World) (h : Par P v ts q W) (hi : q < ts.length) (hl : ts.length ≤ 2000000) :
    Calls Tryz.prog 46 #[.pointer (some ⟨P, 0, none⟩)] W fun e w' => e = .returned (tokV (nthT ts q)) ∧ Below W.heap.size W w' := by
  have hbA := (Below.refl W.heap.size W).alloc (Nat.le_refl _) (.cells #[.int .u8 0, .string ⟨#[]⟩, .int .i64 0, .int .i64 0] 96)
  have h := h.below hbA
  have HBX := hidden (box_new W (.int .u8 0) (.string ⟨#[]⟩) (.int .i64 0) (.int .i64 0))
  have hc0 := h.c0
  have hc1 := h.c1
  have hPl := h.lt
  obtain ⟨g, cap, rfl, -, hgl, hc⟩ := h.row
  obtain ⟨a0, a1, a2, a3⟩ := hc q hi
  have hii : (q : Int) < (ts.length : Int) := by omega
  have hin := hi
  have hll : (ts.length : Int) ≤ 2000000 := by omega
  have HBA := hidden hbA
  clear h hc hbA
  unfold tokV
  generalize nthT ts q = t at *
  obtain ⟨so, tx, nm, pl⟩ := t
  simp only at a0 a1 a2 a3
  generalize str tx = S at *
  generalize ts.length = N at *
  go_enter Tryz.func46, Tryz.ntmps46
  go_wp2
  generalize hW0 : W.alloc (.cells #[.int .u8 0, .string ⟨#[]⟩, .int .i64 0, .int .i64 0] 96) = W0 at *
  refine wp_region_said 10 (fun i u v => match i with
      | 0 => v = .pointer (some ⟨P, 0, none⟩)
      | 1 => v = .pointer (some ⟨P, 0, none⟩)
      | 2 => v = .pointer (some ⟨P, 0, none⟩)
      | 3 => v = .slice (some ⟨g, 0, none⟩) N cap
      | 4 => v = .pointer (some ⟨P, 0, none⟩)
      | 5 => v = .pointer (some ⟨P, 0, none⟩)
      | 6 => v = .pointer (some ⟨P, 1, none⟩)
      | 7 => v = .int .i64 (q : Int)
      | 8 => v = .pointer (some ⟨g, q * 4, none⟩)
      | 9 => v = .agg #[.int .u8 so, .string S, .int .i64 nm, .int .i64 pl]
      | _ => True) (by kernel_rfl) (by kernel_rfl) (by kernel_rfl) (by kernel_rfl) ?_ ?_ ?_
  · intro i w v w' h hb
    match i, h with
    | 0, h => exact h
    | 1, h => exact h
    | 2, h => exact h
    | 3, h => exact h
    | 4, h => exact h
    | 5, h => exact h
    | 6, h => exact h
    | 7, h => exact h
    | 8, h => exact h
    | 9, h => exact h
    | _ + 10, _ => trivial
  · intro i o ρ w' hi ho hb hc hf hfr hdep
    have LK : ∀ {a : Addr} {x : Value}, a.block < W0.heap.size → W0.cell? a = some x → w'.cell? a = some x := fun h1 h2 => (hb.cell h1).trans h2
    have k0 := LK hPl hc0
    have k1 := LK hPl hc1
    have k2 := LK hgl a0
    have k3 := LK hgl a1
    have k4 := LK hgl a2
    have k5 := LK hgl a3
    match i, hi with
    | 0, _ =>
      simp only [gTA, gCZ, gSI] at ho
      subst ho
      have ts : ρ (.tmp 0) = .pointer (some ⟨P, 0, none⟩) := hfr 0 (by kernel_rfl)
      simp [go_sem, ts]
      exact ⟨Below.refl _ _, rfl⟩
    | 1, _ =>
      simp only [gTA, gCZ, gCS, gSI] at ho
      subst ho
      have ts : ρ (.tmp 3) = .pointer (some ⟨P, 0, none⟩) := hdep 0 3 (by kernel_rfl) (by kernel_rfl)
      simp [go_sem, ts]
      exact ⟨Below.refl _ _, rfl⟩
    | 2, _ =>
      simp only [gTA, gCZ, gCS, gSI] at ho
      subst ho
      have ts : ρ (.tmp 4) = .pointer (some ⟨P, 0, none⟩) := hdep 1 4 (by kernel_rfl) (by kernel_rfl)
      simp [go_sem, ts]
      exact ⟨Below.refl _ _, rfl⟩
    | 3, _ =>
      simp only [gTA, gCZ, gCS, gSI] at ho
      subst ho
      have ts : ρ (.tmp 5) = .pointer (some ⟨P, 0, none⟩) := hdep 2 5 (by kernel_rfl) (by kernel_rfl)
      simp [go_sem, ts, k0]
      exact ⟨Below.refl _ _, rfl⟩
    | 4, _ =>
      simp only [gTA, gCZ, gCS, gSI] at ho
      subst ho
      have ts : ρ (.tmp 0) = .pointer (some ⟨P, 0, none⟩) := hfr 0 (by kernel_rfl)
      simp [go_sem, ts]
      exact ⟨Below.refl _ _, rfl⟩
    | 5, _ =>
      simp only [gTA, gCZ, gCS, gSI] at ho
      subst ho
      have ts : ρ (.tmp 7) = .pointer (some ⟨P, 0, none⟩) := hdep 4 7 (by kernel_rfl) (by kernel_rfl)
      simp [go_sem, ts]
      exact ⟨Below.refl _ _, rfl⟩
    | 6, _ =>
      simp only [gTA, gCZ, gCS, gSI] at ho
      subst ho
      have ts : ρ (.tmp 8) = .pointer (some ⟨P, 0, none⟩) := hdep 5 8 (by kernel_rfl) (by kernel_rfl)
      simp [go_sem, ts]
      exact ⟨Below.refl _ _, rfl⟩
    | 7, _ =>
      simp only [gTA, gCZ, gCS, gSI] at ho
      subst ho
      have ts : ρ (.tmp 9) = .pointer (some ⟨P, 1, none⟩) := hdep 6 9 (by kernel_rfl) (by kernel_rfl)
      simp [go_sem, ts, k1]
      exact ⟨Below.refl _ _, rfl⟩
    | 8, _ =>
      simp only [gTA, gCZ, gCS, gSI] at ho
      subst ho
      have t1 : ρ (.tmp 6) = .slice (some ⟨g, 0, none⟩) N cap := hdep 3 6 (by kernel_rfl) (by kernel_rfl)
      have t2 : ρ (.tmp 10) = .int .i64 (q : Int) := hdep 7 10 (by kernel_rfl) (by kernel_rfl)
      simp [go_sem, t1, t2, hin]
      exact ⟨Below.refl _ _, rfl⟩
    | 9, _ =>
      simp only [gTA, gCZ, gCS, gSI] at ho
      subst ho
      have ts : ρ (.tmp 11) = .pointer (some ⟨g, q * 4, none⟩) := hdep 8 11 (by kernel_rfl) (by kernel_rfl)
      simp [go_sem, ts, k2, k3, k4, k5]
      exact ⟨Below.refl _ _, rfl⟩
  · intro V w9 q9 hS
    have e0 : V 0 = .pointer (some ⟨P, 0, none⟩) := hS 0 (by decide)
    have e1 : V 1 = .pointer (some ⟨P, 0, none⟩) := hS 1 (by decide)
    have e2 : V 2 = .pointer (some ⟨P, 0, none⟩) := hS 2 (by decide)
    have e3 : V 3 = .slice (some ⟨g, 0, none⟩) N cap := hS 3 (by decide)
    have e4 : V 4 = .pointer (some ⟨P, 0, none⟩) := hS 4 (by decide)
    have e5 : V 5 = .pointer (some ⟨P, 0, none⟩) := hS 5 (by decide)
    have e6 : V 6 = .pointer (some ⟨P, 1, none⟩) := hS 6 (by decide)
    have e7 : V 7 = .int .i64 (q : Int) := hS 7 (by decide)
    have e8 : V 8 = .pointer (some ⟨g, q * 4, none⟩) := hS 8 (by decide)
    have e9 : V 9 = .agg #[.int .u8 so, .string S, .int .i64 nm, .int .i64 pl] := hS 9 (by decide)
    simp only [List.drop_succ_cons, List.drop_zero, List.take_succ_cons, List.take_zero, puts, e0, e1, e2, e3, e4, e5, e6, e7, e8, e9]
    clear hS e0 e1 e2 e3 e4 e5 e6 e7 e8 e9 V
    obtain ⟨x1, y1, z5, u1, c0, c1, c2, c3, f0, f1, f2, f3⟩ := (HBX.out.below q9).parts
    go_wp2
    exact bodyPost_ret (v := .agg #[.int .u8 so, .string S, .int .i64 nm, .int .i64 pl]) (by simp [results, Tryz.results46, go_sem, c0, c1, c2, c3]) rfl ⟨rfl, below_put4 (HBA.out.trans (q9.mono HBA.out.size)) (Nat.le_refl _)⟩
theorem tok_f0 (a b c d : Value) (w : World) : (Instr.field 96 (.agg #[a, b, c, d]) 0).run Tryz.prog w = .ok a w := by kernel_rfl
theorem tok_f1 (a b c d : Value) (w : World) : (Instr.field 96 (.agg #[a, b, c, d]) 1).run Tryz.prog w = .ok b w := by kernel_rfl
theorem tok_f2 (a b c d : Value) (w : World) : (Instr.field 96 (.agg #[a, b, c, d]) 2).run Tryz.prog w = .ok c w := by kernel_rfl
theorem tok_f3 (a b c d : Value) (w : World) : (Instr.field 96 (.agg #[a, b, c, d]) 3).run Tryz.prog w = .ok d w := by kernel_rfl
set_option maxRecDepth 100000 in
theorem is_at (P : Nat) (v : Value) (ts : List Tok) (i : Nat) (W : World) (h : Par P v ts i W) (hi : i < ts.length) (hl : ts.length ≤ 2000000) (s : Int) :
    Calls Tryz.prog 88 #[.pointer (some ⟨P, 0, none⟩), .int .u8 s] W fun e w' => e = .returned (.bool (decide ((nthT ts i).sort = s))) ∧ Below W.heap.size W w' := by
  have HA := hidden (ahead_at P v ts i W h hi hl)
  clear h
  unfold tokV at HA
  generalize nthT ts i = t at *
  obtain ⟨so, tx, nm, pl⟩ := t
  simp only at HA ⊢
  have ff := tok_f0
  go_enter Tryz.func88, Tryz.ntmps88
  go_wp2_with (go_at_call 46; (with_reducible refine HA.out.mono ?_); rintro e w1 ⟨rfl, hb⟩; have HB := hidden hb; clear hb)
  go_ret
  exact ⟨rfl, HB.out⟩
set_option maxRecDepth 100000 in
theorem says_at (P : Nat) (v : Value) (ts : List Tok) (i : Nat) (W : World) (h : Par P v ts i W) (hi : i < ts.length) (hl : ts.length ≤ 2000000) (x : List UInt8) :
    Calls Tryz.prog 85 #[.pointer (some ⟨P, 0, none⟩), .string (str x)] W fun e w' => e = .returned (.bool (decide ((nthT ts i).text = x))) ∧ Below W.heap.size W w' := by
  have HA := hidden (ahead_at P v ts i W h hi hl)
  clear h
  unfold tokV at HA
  generalize nthT ts i = t at *
  obtain ⟨so, tx, nm, pl⟩ := t
  simp only at HA ⊢
  have e1 := str_list tx
  have e2 := str_list x
  have e3 : (tx == x) = decide (tx = x) := by
    by_cases h : tx = x
    · simp [h]
    · rw [decide_eq_false h]; simpa using h
  have ff := tok_f1
  go_enter Tryz.func85, Tryz.ntmps85
  go_wp2_with (go_at_call 46; (with_reducible refine HA.out.mono ?_); rintro e w1 ⟨rfl, hb⟩; have HB := hidden hb; clear hb)
  go_ret
  exact ⟨rfl, HB.out⟩
theorem Par.set {P v ts i w} (h : Par P v ts i w) (j : Nat) : Goes P v ts j w (w.setCell ⟨P, 1, none⟩ (.int .i64 (j : Int))) := by
  have hg : w.grownBy (w.setCell ⟨P, 1, none⟩ (.int .i64 (j : Int))) (some P) :=
    ⟨rfl, rfl, rfl, by simp, fun k _ hk => Below.heap_setCell w _ _ k (fun e => hk (by rw [e]))⟩
  refine ⟨h.moved hg ?_, hg⟩
  rw [heap_setCell_same w P 1 _ _ _ h.here]
  rfl
theorem Par.blk {P v ts i w} (h : Par P v ts i w) {n : Nat} (hn : w.heap.size ≤ n) : v.ownBlock ≠ some n ∧ P ≠ n := by
  obtain ⟨g, cap, rfl, -, hlt, -⟩ := h.row
  have := h.lt
  exact ⟨fun e => by have : g = n := Option.some.inj e; omega, by omega⟩
theorem Par.other {P v ts i w} (h : Par P v ts i w) {n k : Nat} (hn : v.ownBlock ≠ some n ∧ P ≠ n) (x : Value) : Par P v ts i (w.setCell ⟨n, k, none⟩ x) := by
  refine ⟨(Below.heap_setCell w _ _ P hn.2).trans h.here, ?_⟩
  obtain ⟨g, cap, rfl, hne, hlt, hc⟩ := h.row
  exact ⟨g, cap, rfl, hne, by rw [World.size_setCell]; exact hlt, fun k hk => (hc k hk).block (Below.heap_setCell w _ _ g (fun e => hn.1 (congrArg some e)))⟩
theorem Goes.put {P v ts j W w1} (h : Goes P v ts j W w1) {n k : Nat} (hn : v.ownBlock ≠ some n ∧ P ≠ n) (hs : W.heap.size ≤ n) (x : Value) : Goes P v ts j W (w1.setCell ⟨n, k, none⟩ x) := ⟨h.par.other hn x, grown_set h.grown hs⟩
/-- A token's variable that was made just now, behind the parser's step. -/
theorem pass_cells {P : Nat} {w1 : World} {a b c d : Value} (X : Value) (hP : P < w1.heap.size) : let w2 := (w1.alloc (.cells #[a, b, c, d] 96)).setCell ⟨P, 1, none⟩ X
    w2.cell? ⟨w1.heap.size, 0, none⟩ = some a ∧ w2.cell? ⟨w1.heap.size, 1, none⟩ = some b ∧ w2.cell? ⟨w1.heap.size, 2, none⟩ = some c ∧ w2.cell? ⟨w1.heap.size, 3, none⟩ = some d := by
  have hne : w1.heap.size ≠ P := by omega
  have e := Below.heap_setCell (w1.alloc (.cells #[a, b, c, d] 96)) ⟨P, 1, none⟩ X w1.heap.size hne
  have e2 : (w1.alloc (.cells #[a, b, c, d] 96)).heap[w1.heap.size]? = some (.cells #[a, b, c, d] 96 (0, 0)) := by show (w1.heap.push _)[w1.heap.size]? = _; simp
  have e3 := e.trans e2
  refine ⟨?_, ?_, ?_, ?_⟩ <;> (unfold World.cell?; rw [e3]; rfl)
theorem Box.step {n P w} (h : Box n w) (hn : n ≠ P) (o : Obj) (X : Value) : Box n ((w.alloc o).setCell ⟨P, 1, none⟩ X) := by
  have hl := h.lt
  obtain ⟨x, y, z, u, h⟩ := h
  exact ⟨x, y, z, u, (Below.heap_setCell _ _ _ n hn).trans ((Below.heap_alloc w o n hl).trans h)⟩
set_option maxRecDepth 100000 in
set_option maxHeartbeats 1000000 in
theorem pass_at (P : Nat) (v : Value) (ts : List Tok) (i : Nat) (W : World) (h : Par P v ts i W) (hi : i < ts.length) (hl : ts.length ≤ 2000000) :
    Calls Tryz.prog 142 #[.pointer (some ⟨P, 0, none⟩)] W fun e w' => e = .returned (tokV (nthT ts i)) ∧ Goes P v ts (i + 1) W w' := by
  have hb0 := (Below.refl W.heap.size W).alloc (Nat.le_refl _) (.cells #[.int .u8 0, .string ⟨#[]⟩, .int .i64 0, .int .i64 0] 96)
  have HA := hidden (ahead_at P v ts i _ (h.below hb0) hi hl)
  have HPR := hidden (Goes.stay h hb0)
  have HBX := hidden (box_new W (.int .u8 0) (.string ⟨#[]⟩) (.int .i64 0) (.int .i64 0))
  have HBK := hidden (h.blk (Nat.le_refl _))
  have hiI : (i : Int) < (ts.length : Int) := by omega
  have hll : (ts.length : Int) ≤ 2000000 := by omega
  clear h hb0
  unfold tokV at HA ⊢
  generalize nthT ts i = t at *
  obtain ⟨so, tx, nm, pl⟩ := t
  simp only at HA ⊢
  go_enter Tryz.func142, Tryz.ntmps142
  go_wp2_with (go_at_call 46; (with_reducible refine HA.out.mono ?_); rintro e w1 ⟨rfl, hb⟩; have HG := hidden (HPR.out.later hb); have HX := hidden (HBX.out.below hb); clear hb; have c1 := fun o => (HG.out.par.alloc o).c1; have f1 := fun o => (HG.out.par.alloc o).f1; obtain ⟨d0, d1, d2, d3⟩ := pass_cells (a := .int .u8 so) (b := .string (str tx)) (c := .int .i64 nm) (d := .int .i64 pl) (.int .i64 ((i : Int) + 1)) HG.out.par.lt; obtain ⟨x1, y1, z5, u1, k0, k1, k2, k3, g0, g1, g2, g3⟩ := (HX.out.step (fun e => HBK.out.2 e.symm) (.cells #[.int .u8 so, .string (str tx), .int .i64 nm, .int .i64 pl] 96) (.int .i64 ((i : Int) + 1))).parts)
  exact bodyPost_ret (v := .agg #[.int .u8 so, .string (str tx), .int .i64 nm, .int .i64 pl]) (by simp [results, Tryz.results142, go_sem, k0, k1, k2, k3]) rfl ⟨rfl, by
    have q1 := (HG.out.later ((Below.refl _ _).alloc (Nat.le_refl _) (.cells #[.int .u8 so, .string (str tx), .int .i64 nm, .int .i64 pl] 96)))
    have q2 := q1.trans (q1.par.set (i + 1))
    exact (((q2.put HBK.out (Nat.le_refl _) _).put HBK.out (Nat.le_refl _) _).put HBK.out (Nat.le_refl _) _).put HBK.out (Nat.le_refl _) _⟩
theorem need_no (p : Value) (W : World) : Calls Tryz.prog 87 #[p, .bool false] W fun e w' => e = .panicked tokPanic ∧ Below W.heap.size W w' := by
  have hp : ∀ w : World, (Instr.panic (.iface 31 (.int .i64 50))).run Tryz.prog w = .halt (.panic (.iface 31 (.int .i64 50))) w := fun _ => rfl
  go_enter Tryz.func87, Tryz.ntmps87
  go_wp2
  exact ⟨rfl, rfl, (Below.refl _ _).alloc (Nat.le_refl _) _⟩
set_option maxRecDepth 100000 in
set_option maxHeartbeats 1000000 in
theorem need_yes (P : Nat) (v : Value) (ts : List Tok) (i : Nat) (W : World) (h : Par P v ts i W) (hi : i < ts.length) (hl : ts.length ≤ 2000000) :
    Calls Tryz.prog 87 #[.pointer (some ⟨P, 0, none⟩), .bool true] W fun e w' => e = .returned (tokV (nthT ts i)) ∧ Goes P v ts (i + 1) W w' := by
  have hb0 := (Below.refl W.heap.size W).alloc (Nat.le_refl _) (.cells #[.int .u8 0, .string ⟨#[]⟩, .int .i64 0, .int .i64 0] 96)
  have HA := hidden (pass_at P v ts i _ (h.below hb0) hi hl)
  have HPR := hidden (Goes.stay h hb0)
  have HBX := hidden (box_new W (.int .u8 0) (.string ⟨#[]⟩) (.int .i64 0) (.int .i64 0))
  have HBK := hidden (h.blk (Nat.le_refl _))
  clear h hb0
  unfold tokV at HA ⊢
  generalize nthT ts i = t at *
  obtain ⟨so, tx, nm, pl⟩ := t
  simp only at HA ⊢
  go_enter Tryz.func87, Tryz.ntmps87
  go_wp2_with (go_at_call 142; (with_reducible refine HA.out.mono ?_); rintro e w1 ⟨rfl, hg⟩; have HG := hidden (HPR.out.trans hg); obtain ⟨x1, y1, z5, u1, k0, k1, k2, k3, g0, g1, g2, g3⟩ := (HBX.out.grown hg.grown (fun e => HBK.out.2 e.symm)).parts; clear hg)
  exact bodyPost_ret (v := .agg #[.int .u8 so, .string (str tx), .int .i64 nm, .int .i64 pl]) (by simp [results, Tryz.results87, go_sem, k0, k1, k2, k3]) rfl ⟨rfl, 
    (((HG.out.put HBK.out (Nat.le_refl _) _).put HBK.out (Nat.le_refl _) _).put HBK.out (Nat.le_refl _) _).put HBK.out (Nat.le_refl _) _⟩
/-! ### A certain text, a name, a number: there, or given up -/
set_option maxRecDepth 100000 in
theorem expect_yes (P : Nat) (v : Value) (ts : List Tok) (i : Nat) (W : World) (h : Par P v ts i W) (hi : i < ts.length) (hl : ts.length ≤ 2000000) (x : List UInt8) (hx : (nthT ts i).text = x) :
    Calls Tryz.prog 83 #[.pointer (some ⟨P, 0, none⟩), .string (str x)] W fun e w' => e = .returned (.tuple #[]) ∧ Goes P v ts (i + 1) W w' := by
  have HS := hidden (says_at P v ts i W h hi hl x)
  rw [decide_eq_true hx] at HS
  have HPR := hidden h
  have HN : Hid (∀ w1, Par P v ts i w1 → Calls Tryz.prog 87 #[.pointer (some ⟨P, 0, none⟩), .bool true] w1 fun e w' => e = .returned (tokV (nthT ts i)) ∧ Goes P v ts (i + 1) w1 w') := fun w1 h1 => need_yes P v ts i w1 h1 hi hl
  clear h hx
  go_enter Tryz.func83, Tryz.ntmps83
  go_wp2_with (first
    | (go_at_call 87; (with_reducible refine (HN.out _ HG.out.par).mono ?_); rintro e w2 ⟨rfl, hg⟩; have HG2 := hidden (HG.out.trans hg); clear hg)
    | (go_at_call 85; (with_reducible refine HS.out.mono ?_); rintro e w1 ⟨rfl, hb⟩; have HG := hidden (Goes.stay HPR.out hb); clear hb))
  go_end0
  exact ⟨rfl, HG2.out⟩
set_option maxRecDepth 100000 in
theorem expect_no (P : Nat) (v : Value) (ts : List Tok) (i : Nat) (W : World) (h : Par P v ts i W) (hi : i < ts.length) (hl : ts.length ≤ 2000000) (x : List UInt8) (hx : (nthT ts i).text ≠ x) :
    Calls Tryz.prog 83 #[.pointer (some ⟨P, 0, none⟩), .string (str x)] W fun e w' => e = .panicked tokPanic ∧ Goes P v ts i W w' := by
  have HS := hidden (says_at P v ts i W h hi hl x)
  rw [decide_eq_false hx] at HS
  have HPR := hidden h
  have HN := hidden need_no
  clear h hx
  go_enter Tryz.func83, Tryz.ntmps83
  go_wp2_with (first
    | (go_at_call 87; (with_reducible refine (HN.out _ _).mono ?_); rintro e w2 ⟨rfl, hb⟩; have HG2 := hidden (HG.out.later hb); clear hb)
    | (go_at_call 85; (with_reducible refine HS.out.mono ?_); rintro e w1 ⟨rfl, hb⟩; have HG := hidden (Goes.stay HPR.out hb); clear hb))
  exact ⟨rfl, rfl, HG2.out⟩
set_option maxRecDepth 100000 in
theorem pname_yes (P : Nat) (v : Value) (ts : List Tok) (i : Nat) (W : World) (h : Par P v ts i W) (hi : i < ts.length) (hl : ts.length ≤ 2000000) (hx : (nthT ts i).sort = 1) :
    Calls Tryz.prog 84 #[.pointer (some ⟨P, 0, none⟩)] W fun e w' => e = .returned (.string (str (nthT ts i).text)) ∧ Goes P v ts (i + 1) W w' := by
  have HS := hidden (is_at P v ts i W h hi hl 1)
  rw [decide_eq_true hx] at HS
  have HPR := hidden h
  have HN : Hid (∀ w1, Par P v ts i w1 → Calls Tryz.prog 87 #[.pointer (some ⟨P, 0, none⟩), .bool true] w1 fun e w' => e = .returned (tokV (nthT ts i)) ∧ Goes P v ts (i + 1) w1 w') := fun w1 h1 => need_yes P v ts i w1 h1 hi hl
  have ff := tok_f1
  clear h hx
  unfold tokV at HN
  generalize nthT ts i = t at *
  obtain ⟨so, tx, nm, pl⟩ := t
  simp only at HN ⊢
  go_enter Tryz.func84, Tryz.ntmps84
  go_wp2_with (first
    | (go_at_call 87; (with_reducible refine (HN.out _ HG.out.par).mono ?_); rintro e w2 ⟨rfl, hg⟩; have HG2 := hidden (HG.out.trans hg); clear hg)
    | (go_at_call 88; (with_reducible refine HS.out.mono ?_); rintro e w1 ⟨rfl, hb⟩; have HG := hidden (Goes.stay HPR.out hb); clear hb))
  go_ret
  exact ⟨rfl, HG2.out⟩
set_option maxRecDepth 100000 in
theorem pname_no (P : Nat) (v : Value) (ts : List Tok) (i : Nat) (W : World) (h : Par P v ts i W) (hi : i < ts.length) (hl : ts.length ≤ 2000000) (hx : (nthT ts i).sort ≠ 1) :
    Calls Tryz.prog 84 #[.pointer (some ⟨P, 0, none⟩)] W fun e w' => e = .panicked tokPanic ∧ Goes P v ts i W w' := by
  have HS := hidden (is_at P v ts i W h hi hl 1)
  rw [decide_eq_false hx] at HS
  have HPR := hidden h
  have HN := hidden need_no
  clear h hx
  go_enter Tryz.func84, Tryz.ntmps84
  go_wp2_with (first
    | (go_at_call 87; (with_reducible refine (HN.out _ _).mono ?_); rintro e w2 ⟨rfl, hb⟩; have HG2 := hidden (HG.out.later hb); clear hb)
    | (go_at_call 88; (with_reducible refine HS.out.mono ?_); rintro e w1 ⟨rfl, hb⟩; have HG := hidden (Goes.stay HPR.out hb); clear hb))
  exact ⟨rfl, rfl, HG2.out⟩
set_option maxRecDepth 100000 in
theorem pnumber_yes (P : Nat) (v : Value) (ts : List Tok) (i : Nat) (W : World) (h : Par P v ts i W) (hi : i < ts.length) (hl : ts.length ≤ 2000000) (hx : (nthT ts i).sort = 2) :
    Calls Tryz.prog 166 #[.pointer (some ⟨P, 0, none⟩)] W fun e w' => e = .returned (.int .i64 (nthT ts i).num) ∧ Goes P v ts (i + 1) W w' := by
  have HS := hidden (is_at P v ts i W h hi hl 2)
  rw [decide_eq_true hx] at HS
  have HPR := hidden h
  have HN : Hid (∀ w1, Par P v ts i w1 → Calls Tryz.prog 87 #[.pointer (some ⟨P, 0, none⟩), .bool true] w1 fun e w' => e = .returned (tokV (nthT ts i)) ∧ Goes P v ts (i + 1) w1 w') := fun w1 h1 => need_yes P v ts i w1 h1 hi hl
  have ff := tok_f2
  clear h hx
  unfold tokV at HN
  generalize nthT ts i = t at *
  obtain ⟨so, tx, nm, pl⟩ := t
  simp only at HN ⊢
  go_enter Tryz.func166, Tryz.ntmps166
  go_wp2_with (first
    | (go_at_call 87; (with_reducible refine (HN.out _ HG.out.par).mono ?_); rintro e w2 ⟨rfl, hg⟩; have HG2 := hidden (HG.out.trans hg); clear hg)
    | (go_at_call 88; (with_reducible refine HS.out.mono ?_); rintro e w1 ⟨rfl, hb⟩; have HG := hidden (Goes.stay HPR.out hb); clear hb))
  go_ret
  exact ⟨rfl, HG2.out⟩
set_option maxRecDepth 100000 in
theorem pnumber_no (P : Nat) (v : Value) (ts : List Tok) (i : Nat) (W : World) (h : Par P v ts i W) (hi : i < ts.length) (hl : ts.length ≤ 2000000) (hx : (nthT ts i).sort ≠ 2) :
    Calls Tryz.prog 166 #[.pointer (some ⟨P, 0, none⟩)] W fun e w' => e = .panicked tokPanic ∧ Goes P v ts i W w' := by
  have HS := hidden (is_at P v ts i W h hi hl 2)
  rw [decide_eq_false hx] at HS
  have HPR := hidden h
  have HN := hidden need_no
  clear h hx
  go_enter Tryz.func166, Tryz.ntmps166
  go_wp2_with (first
    | (go_at_call 87; (with_reducible refine (HN.out _ _).mono ?_); rintro e w2 ⟨rfl, hb⟩; have HG2 := hidden (HG.out.later hb); clear hb)
    | (go_at_call 88; (with_reducible refine HS.out.mono ?_); rintro e w1 ⟨rfl, hb⟩; have HG := hidden (Goes.stay HPR.out hb); clear hb))
  exact ⟨rfl, rfl, HG2.out⟩
theorem Tryz.info3' : (Tryz.prog.info? 3).map (fun i => (i.zero, i.size, i.bytes)) = some (some (.int .i64 0), 1, 8) := by kernel_rfl
theorem owns_ne_k {base : Nat} {w : World} {e : TypeId} {size n : Nat} {v : Value} {xs : List Value} (h : w.ownsRow base e size v n xs) {k : Nat} (hk : k < base) : v.ownBlock ≠ some k := by
  rcases h.2 with ⟨rfl, -⟩ | ⟨g, c, cur, rfl, hg, -⟩
  · intro e; cases e
  · intro e; cases e; exact absurd hk (by simpa using hg)
theorem owns_grown_k {base : Nat} {w w' : World} {e : TypeId} {size n : Nat} {v : Value} {xs : List Value} {b : Nat} (h : w.ownsRow base e size v n xs) (hg : w.grownBy w' (some b)) (hb : b < base) : w'.ownsRow base e size v n xs := World.ownsRow.kept h hg (Or.inr (owns_ne_k h hb))
theorem owns_below_k {base : Nat} {w w' : World} {e : TypeId} {size n : Nat} {v : Value} {xs : List Value} (h : w.ownsRow base e size v n xs) (hb : Below w.heap.size w w') : w'.ownsRow base e size v n xs := by
  refine ⟨h.1, ?_⟩
  rcases h.2 with h2 | ⟨g, cap, cur, hv, hg, hh, r⟩
  · exact .inl h2
  · refine .inr ⟨g, cap, cur, hv, hg, ?_, r⟩
    rw [hb.block g (Array.getElem?_eq_some_iff.1 hh).1]; exact hh
theorem owns_mono_k {base base' : Nat} {w : World} {e : TypeId} {size n : Nat} {v : Value} {xs : List Value} (h : w.ownsRow base e size v n xs) (hb : base' ≤ base) : w.ownsRow base' e size v n xs := by
  refine ⟨h.1, ?_⟩
  rcases h.2 with h2 | ⟨g, cap, cur, hv, hg, r⟩
  · exact .inl h2
  · exact .inr ⟨g, cap, cur, hv, Nat.le_trans hb hg, r⟩
/-- Numbers in a row of a call's own. -/
def Ints_k (base : Nat) (w : World) (v : Value) (ns : List Int) : Prop := w.ownsRow base 3 1 v ns.length (ns.map (Value.int .i64))
theorem Ints_k.app {base w v' ns x} (h : w.ownsRow base 3 1 v' (ns.length + 1) (ns.map (Value.int .i64) ++ [.int .i64 x])) : Ints_k base w v' (ns ++ [x]) := by
  unfold Ints_k
  rw [List.length_append, List.map_append]
  exact h
/-- What is done to rows of the call's own behind it leaves the parser where it is. -/
theorem Goes.own {P v ts i j W w1 w2} {row : Option Nat} (h : Goes P v ts j W w1) (h0 : Par P v ts i W) (hg : w1.grownBy w2 row) (hr : ∀ k, row = some k → W.heap.size ≤ k) : Goes P v ts j W w2 := by
  have hP := h0.lt
  have ne : ∀ k, k < W.heap.size → some k ≠ row := fun k hk e => by have := hr k e.symm; omega
  have hs := h.grown.size
  refine ⟨⟨(hg.block P (by omega) (ne P hP)).trans h.par.here, ?_⟩, ?_⟩
  · obtain ⟨g, cap, rfl, -, hlt, -⟩ := h0.row
    obtain ⟨g', cap', he, hne, hlt', hc⟩ := h.par.row
    cases he
    exact ⟨g, cap, rfl, hne, Nat.lt_of_lt_of_le hlt' hg.size, fun k hk => (hc k hk).block (hg.block g hlt' (ne g hlt))⟩
  · exact ⟨hg.os.trans h.grown.os, hg.tape.trans h.grown.tape, hg.output.trans h.grown.output, Nat.le_trans h.grown.size hg.size, fun k hk hne => (hg.block k (by omega) (ne k hk)).trans (h.grown.block k hk hne)⟩
theorem own_row_k {base : Nat} {w : World} {e : TypeId} {size n : Nat} {v : Value} {xs : List Value} (h : w.ownsRow base e size v n xs) : ∀ k, v.ownBlock = some k → base ≤ k := fun k e => by
  rcases Nat.lt_or_ge k base with h1 | h1
  · exact absurd e (owns_ne_k h h1)
  · exact h1
theorem int_new (wr : World) (s : Int) (t : TypeId) : ∀ j u, [Value.int .i64 s][j]? = some u → (wr.alloc (.cells #[.int .i64 s] t)).cell? ((⟨wr.heap.size, 0, none⟩ : Addr).add j) = some u := by
  intro j u hu
  match j, hu with
  | 0, hu => simp at hu; subst hu; simp [Addr.add]
theorem int_one (s : Int) : ∀ u ∈ [Value.int .i64 s], u.oneCell' = true := by
  intro u hu
  simp only [List.mem_cons, List.not_mem_nil, or_false] at hu
  subst hu; rfl
set_option maxRecDepth 100000 in
set_option maxHeartbeats 2000000 in
theorem numbers_at (P : Nat) (v : Value) (ts : List Tok) (i : Nat) (W : World) (h : Par P v ts i W) (hE : Ended ts) (hi : i < ts.length) (hl : ts.length ≤ 2000000) :
    Calls Tryz.prog 164 #[.pointer (some ⟨P, 0, none⟩)] W fun e w' => ∃ r, e = .returned r ∧ Ints_k W.heap.size w' r (numsR ts i) ∧ Goes P v ts (i + (numsR ts i).length) W w' ∧ i + (numsR ts i).length < ts.length := by
  have HP := hidden h
  have HPL := hidden h.lt
  have HG0 := hidden (Goes.refl h)
  have HI0 : Hid (Ints_k W.heap.size W (.slice none 0 0) []) := World.ownsRow_nil _ _ _ _
  clear h
  go_enter Tryz.func164, Tryz.ntmps164
  go_wp2
  go_loopg [3] (ts.length - i) (fun gk r wr => ∃ (j : Nat) (ns : List Int), i ≤ j ∧ j < ts.length ∧ gk = ts.length - j ∧ ns ++ numsR ts j = numsR ts i ∧ j = i + ns.length ∧ Goes P v ts j W wr ∧ Ints_k W.heap.size wr r ns)
  case atStart => exact ⟨i, [], Nat.le_refl _, hi, rfl, rfl, rfl, HG0.out, HI0.out⟩
  case round =>
    clear HG0 HI0
    obtain ⟨j, ns, hij, hj, rfl, hns, hjn, hgo, hin⟩ := hrel
    have HGO := hidden hgo
    have HIN := hidden hin
    have HNS := hidden hns
    have HJN := hidden hjn
    have HIS := hidden (is_at P v ts j wr hgo.par hj hl 2)
    clear hgo hin hns hjn
    by_cases h2 : (nthT ts j).sort = 2
    · rw [decide_eq_true h2] at HIS
      have hj1 := hE.sort_lt hj (by decide) h2
      have HNS2 : Hid ((ns ++ [(nthT ts j).num]) ++ numsR ts (j + 1) = numsR ts i) := by
        show _ = _
        rw [← HNS.out, nums_step hj h2, List.append_assoc]
        rfl
      have HNM : Hid (∀ w1, Par P v ts j w1 → Calls Tryz.prog 166 #[.pointer (some ⟨P, 0, none⟩)] w1 fun e w' => e = .returned (.int .i64 (nthT ts j).num) ∧ Goes P v ts (j + 1) w1 w') := fun w1 h1 => pnumber_yes P v ts j w1 h1 hj hl h2
      clear HNS h2
      generalize (nthT ts j).num = x at *
      obtain ⟨i0, hi', hz0, hz1, hz2⟩ := info_parts Tryz.info3'
      have HI := hidden hi'
      have HI0 := hidden hz0
      have HI1 := hidden hz1
      have HI2 := hidden hz2
      have HNL : Hid (ns.length ≤ 2000000) := by have := HJN.out; show _ ≤ _; omega
      clear hi' hz0 hz1 hz2
      go_wp2_with (first
        | (at_builtin; refine wpList_append_own _ rfl _ _ 60 rfl W.heap.size 3 i0 (.int .i64 0) 1 8 Tryz.underlying60 HI.out HI0.out HI1.out HI2.out rfl (by decide) _ ns.length (ns.map (Value.int .i64)) rfl (owns_below_k I2.out ((Below.refl _ _).alloc (Nat.le_refl _) _)) ⟨w2.heap.size, 0, none⟩ 1 1 [.int .i64 x] rfl rfl (int_new w2 _ _) (int_one _) (by have := HNL.out; unfold maxLen; omega) (by have := HNL.out; omega) (by have := G2.out.grown.size; simp; omega) ?_; intro r' w8 hown hgrow _; have I8 : Hid (Ints_k W.heap.size w8 r' (ns ++ [x])) := Ints_k.app hown; have G8 : Hid (Goes P v ts (j + 1) W w8) := (G2.out.later ((Below.refl _ _).alloc (Nat.le_refl _) _)).own HP.out hgrow (own_row_k I2.out); clear hown hgrow)
        | (go_at_call 166; (with_reducible refine (HNM.out _ G1.out.par).mono ?_); rintro e w2 ⟨rfl, hg⟩; have G2 := hidden (G1.out.trans hg); have I2 := hidden (owns_grown_k I1.out hg.grown HPL.out); clear hg)
        | (go_at_call 88; (with_reducible refine HIS.out.mono ?_); rintro e w1 ⟨rfl, hb⟩; have G1 := hidden (HGO.out.later hb); have I1 := hidden (owns_below_k HIN.out hb); clear hb))
      go_roundg (ts.length - (j + 1))
      case measure => omega
      case rel => exact ⟨j + 1, ns ++ [x], by omega, hj1, rfl, HNS2.out, by have := HJN.out; simp; omega, G8.out, I8.out⟩
    · rw [decide_eq_false h2] at HIS
      have HNS2 : Hid (ns = numsR ts i) := by
        show _ = _
        rw [← HNS.out, nums_stop h2, List.append_nil]
      clear HNS h2
      go_wp2_with (go_at_call 88; (with_reducible refine HIS.out.mono ?_); rintro e w1 ⟨rfl, hb⟩; have G1 := hidden (HGO.out.later hb); have I1 := hidden (owns_below_k HIN.out hb); clear hb)
      go_ret
      refine ⟨_, rfl, ?_⟩
      rw [← HNS2.out, ← HJN.out]
      exact ⟨I1.out, G1.out, hj⟩
/-- A place's variable in a block of its own. -/
def Plb (n : Nat) (w : World) (x y z : Value) : Prop := w.heap[n]? = some (.cells #[x, y, z] 101 (0, 0))
structure Plc3 (n : Nat) (w : World) (x y z : Value) : Prop where
  c0 : w.cell? ⟨n, 0, none⟩ = some x
  c1 : w.cell? ⟨n, 1, none⟩ = some y
  c2 : w.cell? ⟨n, 2, none⟩ = some z
  f0 : w.frozen? ⟨n, 0, none⟩ = false
  f1 : w.frozen? ⟨n, 1, none⟩ = false
  f2 : w.frozen? ⟨n, 2, none⟩ = false
theorem Plb.parts {n w x y z} (h : Plb n w x y z) : Plc3 n w x y z := by
  unfold Plb at h
  refine ⟨?_, ?_, ?_, ?_, ?_, ?_⟩ <;> first | (unfold World.cell?; rw [h]; rfl) | (unfold World.frozen?; rw [h]; rfl)
theorem Plb.lt {n w x y z} (h : Plb n w x y z) : n < w.heap.size := (Array.getElem?_eq_some_iff.1 h).1
theorem Plb.grown {n w w' x y z} {row : Option Nat} (h : Plb n w x y z) (hg : w.grownBy w' row) (hn : some n ≠ row) : Plb n w' x y z := (hg.block n h.lt hn).trans h
theorem Plb.below {n w w' x y z} (h : Plb n w x y z) (hb : Below w.heap.size w w') : Plb n w' x y z := (hb.block n h.lt).trans h
theorem Plb.other {n w x y z} (h : Plb n w x y z) {m k : Nat} (hn : n ≠ m) (u : Value) : Plb n (w.setCell ⟨m, k, none⟩ u) x y z := (Below.heap_setCell w _ _ n hn).trans h
theorem Plb.set0 {n w x y z} (h : Plb n w x y z) (u : Value) : Plb n (w.setCell ⟨n, 0, none⟩ u) u y z := by
  unfold Plb
  rw [heap_setCell_same w n 0 _ _ _ h]; rfl
theorem Plb.set1 {n w x y z} (h : Plb n w x y z) (u : Value) : Plb n (w.setCell ⟨n, 1, none⟩ u) x u z := by
  unfold Plb
  rw [heap_setCell_same w n 1 _ _ _ h]; rfl
theorem plb_new (w : World) (x y z : Value) : Plb w.heap.size (w.alloc (.cells #[x, y, z] 101)) x y z := by show (w.heap.push _)[w.heap.size]? = _; simp
set_option maxRecDepth 100000 in
set_option maxHeartbeats 2000000 in
theorem place_no0 (P : Nat) (v : Value) (ts : List Tok) (i : Nat) (W : World) (h : Par P v ts i W) (hi : i < ts.length) (hl : ts.length ≤ 2000000) (h1 : (nthT ts i).sort ≠ 1) :
    Calls Tryz.prog 165 #[.pointer (some ⟨P, 0, none⟩)] W fun e w' => e = .panicked tokPanic ∧ Goes P v ts (i + 0) W w' := by
  have hb0 := (Below.refl W.heap.size W).alloc (Nat.le_refl _) (.cells #[.string ⟨#[]⟩, .int .i64 0, .int .i64 0] 101)
  have HG0 := hidden (Goes.stay h hb0)
  have HA := hidden (ahead_at P v ts i _ (h.below hb0) hi hl)
  have HR := hidden (plb_new W (.string ⟨#[]⟩) (.int .i64 0) (.int .i64 0))
  have HBK : Hid (∀ {n : Nat}, W.heap.size ≤ n → v.ownBlock ≠ some n ∧ P ≠ n) := fun hn => h.blk hn
  have hW1 : (W.alloc (.cells #[.string ⟨#[]⟩, .int .i64 0, .int .i64 0] 101)).heap.size = W.heap.size + 1 := by simp
  have ff := tok_f3
  have HN1 : Hid (∀ w1, Par P v ts i w1 → Calls Tryz.prog 84 #[.pointer (some ⟨P, 0, none⟩)] w1 fun e w' => e = .panicked tokPanic ∧ Goes P v ts i w1 w') := fun w1 q => pname_no P v ts i w1 q hi hl h1
  clear h hb0 h1
  unfold tokV at HA
  generalize nthT ts i = t at *
  obtain ⟨so, tx, nm, pl⟩ := t
  simp only at HA ⊢
  go_enter Tryz.func165, Tryz.ntmps165
  go_wp2_with (first
    | (go_at_call 84; (with_reducible refine (HN1.out _ G1.out.par).mono ?_); rintro e w2 ⟨rfl, hg⟩; have G2 := hidden (G1.out.trans hg); clear hg)
    | (go_at_call 46; (with_reducible refine HA.out.mono ?_); rintro e w1 ⟨rfl, hb⟩; have NE : Hid (W.heap.size ≤ w1.heap.size ∧ W.heap.size ≠ w1.heap.size) := by { have := hb.size; rw [hW1] at this; exact ⟨by omega, by omega⟩ }; have hb2 := hb.trans (((Below.refl w1.heap.size w1).alloc (Nat.le_refl _) (.cells #[.string ⟨#[]⟩, .int .i64 0, .int .i64 pl] 101)).mono hb.size); have G1 := hidden (HG0.out.later hb2); have L1 := hidden (plb_new w1 (.string ⟨#[]⟩) (.int .i64 0) (.int .i64 pl)); have R1 := hidden (HR.out.below hb2); clear hb hb2))
  exact ⟨rfl, rfl, G2.out⟩
set_option maxRecDepth 100000 in
set_option maxHeartbeats 2000000 in
theorem place_no1 (P : Nat) (v : Value) (ts : List Tok) (i : Nat) (W : World) (h : Par P v ts i W) (hE : Ended ts) (hi : i < ts.length) (hl : ts.length ≤ 2000000) (h1 : (nthT ts i).sort = 1) (h2 : (nthT ts (i + 1)).text ≠ [46]) :
    Calls Tryz.prog 165 #[.pointer (some ⟨P, 0, none⟩)] W fun e w' => e = .panicked tokPanic ∧ Goes P v ts (i + 1) W w' := by
  have hb0 := (Below.refl W.heap.size W).alloc (Nat.le_refl _) (.cells #[.string ⟨#[]⟩, .int .i64 0, .int .i64 0] 101)
  have HG0 := hidden (Goes.stay h hb0)
  have HA := hidden (ahead_at P v ts i _ (h.below hb0) hi hl)
  have HR := hidden (plb_new W (.string ⟨#[]⟩) (.int .i64 0) (.int .i64 0))
  have HBK : Hid (∀ {n : Nat}, W.heap.size ≤ n → v.ownBlock ≠ some n ∧ P ≠ n) := fun hn => h.blk hn
  have hW1 : (W.alloc (.cells #[.string ⟨#[]⟩, .int .i64 0, .int .i64 0] 101)).heap.size = W.heap.size + 1 := by simp
  have ff := tok_f3
  have hi1 := hE.sort_lt hi (by decide) h1
  have HN1 : Hid (∀ w1, Par P v ts i w1 → Calls Tryz.prog 84 #[.pointer (some ⟨P, 0, none⟩)] w1 fun e w' => e = .returned (.string (str (nthT ts i).text)) ∧ Goes P v ts (i + 1) w1 w') := fun w1 q => pname_yes P v ts i w1 q hi hl h1
  have HN2 : Hid (∀ w1, Par P v ts (i + 1) w1 → Calls Tryz.prog 83 #[.pointer (some ⟨P, 0, none⟩), .string ⟨#[46]⟩] w1 fun e w' => e = .panicked tokPanic ∧ Goes P v ts (i + 1) w1 w') := fun w1 q => expect_no P v ts (i + 1) w1 q hi1 hl [46] h2
  clear h hb0 h1
  clear h2
  unfold tokV at HA
  generalize nthT ts i = t at *
  obtain ⟨so, tx, nm, pl⟩ := t
  simp only at HA HN1 ⊢
  go_enter Tryz.func165, Tryz.ntmps165
  go_wp2_with (first
    | (go_at_call 83; (with_reducible refine (HN2.out _ G2.out.par).mono ?_); rintro e w3 ⟨rfl, hg⟩; have G3 := hidden (G2.out.trans hg); clear hg)
    | (go_at_call 84; (with_reducible refine (HN1.out _ G1.out.par).mono ?_); rintro e w2 ⟨rfl, hg⟩; have G2 := hidden ((G1.out.trans hg).put (k := 0) (HBK.out NE.out.1) NE.out.1 (.string (str tx))); have L2a := L1.out.grown hg.grown (fun e => (HBK.out NE.out.1).2 (Option.some.inj e).symm); obtain ⟨a0, -, -, af0, -, -⟩ := L2a.parts; clear L2a; clear hg)
    | (go_at_call 46; (with_reducible refine HA.out.mono ?_); rintro e w1 ⟨rfl, hb⟩; have NE : Hid (W.heap.size ≤ w1.heap.size ∧ W.heap.size ≠ w1.heap.size) := by { have := hb.size; rw [hW1] at this; exact ⟨by omega, by omega⟩ }; have hb2 := hb.trans (((Below.refl w1.heap.size w1).alloc (Nat.le_refl _) (.cells #[.string ⟨#[]⟩, .int .i64 0, .int .i64 pl] 101)).mono hb.size); have G1 := hidden (HG0.out.later hb2); have L1 := hidden (plb_new w1 (.string ⟨#[]⟩) (.int .i64 0) (.int .i64 pl)); have R1 := hidden (HR.out.below hb2); clear hb hb2))
  exact ⟨rfl, rfl, G3.out⟩
set_option maxRecDepth 100000 in
set_option maxHeartbeats 2000000 in
theorem place_no2 (P : Nat) (v : Value) (ts : List Tok) (i : Nat) (W : World) (h : Par P v ts i W) (hE : Ended ts) (hi : i < ts.length) (hl : ts.length ≤ 2000000) (h1 : (nthT ts i).sort = 1) (h2 : (nthT ts (i + 1)).text = [46]) (h3 : (nthT ts (i + 2)).sort ≠ 2) :
    Calls Tryz.prog 165 #[.pointer (some ⟨P, 0, none⟩)] W fun e w' => e = .panicked tokPanic ∧ Goes P v ts (i + 2) W w' := by
  have hb0 := (Below.refl W.heap.size W).alloc (Nat.le_refl _) (.cells #[.string ⟨#[]⟩, .int .i64 0, .int .i64 0] 101)
  have HG0 := hidden (Goes.stay h hb0)
  have HA := hidden (ahead_at P v ts i _ (h.below hb0) hi hl)
  have HR := hidden (plb_new W (.string ⟨#[]⟩) (.int .i64 0) (.int .i64 0))
  have HBK : Hid (∀ {n : Nat}, W.heap.size ≤ n → v.ownBlock ≠ some n ∧ P ≠ n) := fun hn => h.blk hn
  have hW1 : (W.alloc (.cells #[.string ⟨#[]⟩, .int .i64 0, .int .i64 0] 101)).heap.size = W.heap.size + 1 := by simp
  have ff := tok_f3
  have hi1 := hE.sort_lt hi (by decide) h1
  have HN1 : Hid (∀ w1, Par P v ts i w1 → Calls Tryz.prog 84 #[.pointer (some ⟨P, 0, none⟩)] w1 fun e w' => e = .returned (.string (str (nthT ts i).text)) ∧ Goes P v ts (i + 1) w1 w') := fun w1 q => pname_yes P v ts i w1 q hi hl h1
  have hi2 := hE.text_lt hi1 (by decide) h2
  have HN2 : Hid (∀ w1, Par P v ts (i + 1) w1 → Calls Tryz.prog 83 #[.pointer (some ⟨P, 0, none⟩), .string ⟨#[46]⟩] w1 fun e w' => e = .returned (.tuple #[]) ∧ Goes P v ts (i + 2) w1 w') := fun w1 q => expect_yes P v ts (i + 1) w1 q hi1 hl [46] h2
  have HN3 : Hid (∀ w1, Par P v ts (i + 2) w1 → Calls Tryz.prog 166 #[.pointer (some ⟨P, 0, none⟩)] w1 fun e w' => e = .panicked tokPanic ∧ Goes P v ts (i + 2) w1 w') := fun w1 q => pnumber_no P v ts (i + 2) w1 q hi2 hl h3
  clear h hb0 h1
  clear h2
  clear h3
  unfold tokV at HA
  generalize nthT ts i = t at *
  obtain ⟨so, tx, nm, pl⟩ := t
  simp only at HA HN1 ⊢
  go_enter Tryz.func165, Tryz.ntmps165
  go_wp2_with (first
    | (go_at_call 166; (with_reducible refine (HN3.out _ G3.out.par).mono ?_); rintro e w4 ⟨rfl, hg⟩; have G4 := hidden (G3.out.trans hg); clear hg)
    | (go_at_call 83; (with_reducible refine (HN2.out _ G2.out.par).mono ?_); rintro e w3 ⟨rfl, hg⟩; have G3 := hidden (G2.out.trans hg); clear hg)
    | (go_at_call 84; (with_reducible refine (HN1.out _ G1.out.par).mono ?_); rintro e w2 ⟨rfl, hg⟩; have G2 := hidden ((G1.out.trans hg).put (k := 0) (HBK.out NE.out.1) NE.out.1 (.string (str tx))); have L2a := L1.out.grown hg.grown (fun e => (HBK.out NE.out.1).2 (Option.some.inj e).symm); obtain ⟨a0, -, -, af0, -, -⟩ := L2a.parts; clear L2a; clear hg)
    | (go_at_call 46; (with_reducible refine HA.out.mono ?_); rintro e w1 ⟨rfl, hb⟩; have NE : Hid (W.heap.size ≤ w1.heap.size ∧ W.heap.size ≠ w1.heap.size) := by { have := hb.size; rw [hW1] at this; exact ⟨by omega, by omega⟩ }; have hb2 := hb.trans (((Below.refl w1.heap.size w1).alloc (Nat.le_refl _) (.cells #[.string ⟨#[]⟩, .int .i64 0, .int .i64 pl] 101)).mono hb.size); have G1 := hidden (HG0.out.later hb2); have L1 := hidden (plb_new w1 (.string ⟨#[]⟩) (.int .i64 0) (.int .i64 pl)); have R1 := hidden (HR.out.below hb2); clear hb hb2))
  exact ⟨rfl, rfl, G4.out⟩
set_option maxRecDepth 100000 in
set_option maxHeartbeats 2000000 in
theorem place_yes (P : Nat) (v : Value) (ts : List Tok) (i : Nat) (W : World) (h : Par P v ts i W) (hE : Ended ts) (hi : i < ts.length) (hl : ts.length ≤ 2000000) (h1 : (nthT ts i).sort = 1) (h2 : (nthT ts (i + 1)).text = [46]) (h3 : (nthT ts (i + 2)).sort = 2) :
    Calls Tryz.prog 165 #[.pointer (some ⟨P, 0, none⟩)] W fun e w' => e = .returned (.agg #[.string (str (nthT ts i).text), .int .i64 (nthT ts (i + 2)).num, .int .i64 (nthT ts i).place]) ∧ Goes P v ts (i + 3) W w' := by
  have hb0 := (Below.refl W.heap.size W).alloc (Nat.le_refl _) (.cells #[.string ⟨#[]⟩, .int .i64 0, .int .i64 0] 101)
  have HG0 := hidden (Goes.stay h hb0)
  have HA := hidden (ahead_at P v ts i _ (h.below hb0) hi hl)
  have HR := hidden (plb_new W (.string ⟨#[]⟩) (.int .i64 0) (.int .i64 0))
  have HBK : Hid (∀ {n : Nat}, W.heap.size ≤ n → v.ownBlock ≠ some n ∧ P ≠ n) := fun hn => h.blk hn
  have hW1 : (W.alloc (.cells #[.string ⟨#[]⟩, .int .i64 0, .int .i64 0] 101)).heap.size = W.heap.size + 1 := by simp
  have ff := tok_f3
  have hi1 := hE.sort_lt hi (by decide) h1
  have HN1 : Hid (∀ w1, Par P v ts i w1 → Calls Tryz.prog 84 #[.pointer (some ⟨P, 0, none⟩)] w1 fun e w' => e = .returned (.string (str (nthT ts i).text)) ∧ Goes P v ts (i + 1) w1 w') := fun w1 q => pname_yes P v ts i w1 q hi hl h1
  have hi2 := hE.text_lt hi1 (by decide) h2
  have HN2 : Hid (∀ w1, Par P v ts (i + 1) w1 → Calls Tryz.prog 83 #[.pointer (some ⟨P, 0, none⟩), .string ⟨#[46]⟩] w1 fun e w' => e = .returned (.tuple #[]) ∧ Goes P v ts (i + 2) w1 w') := fun w1 q => expect_yes P v ts (i + 1) w1 q hi1 hl [46] h2
  have HN3 : Hid (∀ w1, Par P v ts (i + 2) w1 → Calls Tryz.prog 166 #[.pointer (some ⟨P, 0, none⟩)] w1 fun e w' => e = .returned (.int .i64 (nthT ts (i + 2)).num) ∧ Goes P v ts (i + 3) w1 w') := fun w1 q => pnumber_yes P v ts (i + 2) w1 q hi2 hl h3
  clear h hb0 h1
  clear h2
  clear h3
  generalize (nthT ts (i + 2)).num = num at *
  unfold tokV at HA
  generalize nthT ts i = t at *
  obtain ⟨so, tx, nm, pl⟩ := t
  simp only at HA HN1 ⊢
  go_enter Tryz.func165, Tryz.ntmps165
  go_wp2_with (first
    | (go_at_call 166; (with_reducible refine (HN3.out _ G3.out.par).mono ?_); rintro e w4 ⟨rfl, hg⟩; have G4 := hidden (G3.out.trans hg); have hP := HBK.out (Nat.le_refl W.heap.size); have L4 := hidden (L3.out.grown hg.grown (fun e => (HBK.out NE.out.1).2 (Option.some.inj e).symm)); have R4 := hidden (R3.out.grown hg.grown (fun e => hP.2 (Option.some.inj e).symm)); obtain ⟨l0, l1, l2, lf0, lf1, lf2⟩ := L4.out.parts; obtain ⟨r0, r1, r2, rf0, rf1, rf2⟩ := (R4.out.other (m := w1.heap.size) (k := 1) NE.out.2 (.int .i64 num)).parts; obtain ⟨m0, m1, m2, -, -, -⟩ := (L4.out.set1 (.int .i64 num)).parts; clear hP; clear hg)
    | (go_at_call 83; (with_reducible refine (HN2.out _ G2.out.par).mono ?_); rintro e w3 ⟨rfl, hg⟩; have G3 := hidden (G2.out.trans hg); have L3 := hidden (L2.out.grown hg.grown (fun e => (HBK.out NE.out.1).2 (Option.some.inj e).symm)); have R3 := hidden (R2.out.grown hg.grown (fun e => (HBK.out (Nat.le_refl W.heap.size)).2 (Option.some.inj e).symm)); clear hg)
    | (go_at_call 84; (with_reducible refine (HN1.out _ G1.out.par).mono ?_); rintro e w2 ⟨rfl, hg⟩; have G2 := hidden ((G1.out.trans hg).put (k := 0) (HBK.out NE.out.1) NE.out.1 (.string (str tx))); have L2a := L1.out.grown hg.grown (fun e => (HBK.out NE.out.1).2 (Option.some.inj e).symm); obtain ⟨a0, -, -, af0, -, -⟩ := L2a.parts; have L2 := hidden (L2a.set0 (.string (str tx))); have R2 := hidden ((R1.out.grown hg.grown (fun e => (HBK.out (Nat.le_refl W.heap.size)).2 (Option.some.inj e).symm)).other (m := w1.heap.size) (k := 0) NE.out.2 (.string (str tx))); clear L2a; clear hg)
    | (go_at_call 46; (with_reducible refine HA.out.mono ?_); rintro e w1 ⟨rfl, hb⟩; have NE : Hid (W.heap.size ≤ w1.heap.size ∧ W.heap.size ≠ w1.heap.size) := by { have := hb.size; rw [hW1] at this; exact ⟨by omega, by omega⟩ }; have hb2 := hb.trans (((Below.refl w1.heap.size w1).alloc (Nat.le_refl _) (.cells #[.string ⟨#[]⟩, .int .i64 0, .int .i64 pl] 101)).mono hb.size); have G1 := hidden (HG0.out.later hb2); have L1 := hidden (plb_new w1 (.string ⟨#[]⟩) (.int .i64 0) (.int .i64 pl)); have R1 := hidden (HR.out.below hb2); clear hb hb2))
  exact bodyPost_ret (v := .agg #[.string (str tx), .int .i64 num, .int .i64 pl]) (by simp [results, Tryz.results165, go_sem, r0, r1, r2]) rfl ⟨rfl, by
    have hP := HBK.out (Nat.le_refl W.heap.size)
    exact (((G4.out.put (HBK.out NE.out.1) NE.out.1 _).put hP (Nat.le_refl _) _).put hP (Nat.le_refl _) _).put hP (Nat.le_refl _) _⟩
/-! ### The parser's answers, as the plain language tells them -/
def plV (p : Plc_k) : Value := .agg #[.string (str p.name), .int .i64 p.port, .int .i64 p.place]
theorem expect_some {ts : List Tok} {x : List UInt8} {i j : Nat} (h : textR ts x i = (some (), j)) (hE : Ended ts) (hi : i < ts.length) (hl : ts.length ≤ 2000000) (hx : x ≠ []) (P : Nat) (v : Value) :
    j < ts.length ∧ Hid (∀ w1, Par P v ts i w1 → Calls Tryz.prog 83 #[.pointer (some ⟨P, 0, none⟩), .string (str x)] w1 fun e w' => e = .returned (.tuple #[]) ∧ Goes P v ts j w1 w') := by
  unfold textR at h
  by_cases hc : (nthT ts i).text = x
  · rw [if_pos hc] at h
    cases h
    exact ⟨hE.text_lt hi hx hc, fun w1 q => expect_yes P v ts i w1 q hi hl x hc⟩
  · rw [if_neg hc] at h; cases h
theorem expect_none {ts : List Tok} {x : List UInt8} {i j : Nat} (h : textR ts x i = (none, j)) (hi : i < ts.length) (hl : ts.length ≤ 2000000) (P : Nat) (v : Value) :
    j < ts.length ∧ Hid (∀ w1, Par P v ts i w1 → Calls Tryz.prog 83 #[.pointer (some ⟨P, 0, none⟩), .string (str x)] w1 fun e w' => e = .panicked tokPanic ∧ Goes P v ts j w1 w') := by
  unfold textR at h
  by_cases hc : (nthT ts i).text = x
  · rw [if_pos hc] at h; cases h
  · rw [if_neg hc] at h
    cases h
    exact ⟨hi, fun w1 q => expect_no P v ts i w1 q hi hl x hc⟩
theorem name_some {ts : List Tok} {n : List UInt8} {i j : Nat} (h : nameR ts i = (some n, j)) (hE : Ended ts) (hi : i < ts.length) (hl : ts.length ≤ 2000000) (P : Nat) (v : Value) :
    j < ts.length ∧ Hid (∀ w1, Par P v ts i w1 → Calls Tryz.prog 84 #[.pointer (some ⟨P, 0, none⟩)] w1 fun e w' => e = .returned (.string (str n)) ∧ Goes P v ts j w1 w') := by
  unfold nameR at h
  by_cases hc : (nthT ts i).sort = 1
  · rw [if_pos hc] at h
    cases h
    exact ⟨hE.sort_lt hi (by decide) hc, fun w1 q => pname_yes P v ts i w1 q hi hl hc⟩
  · rw [if_neg hc] at h; cases h
theorem name_none {ts : List Tok} {i j : Nat} (h : nameR ts i = (none, j)) (hi : i < ts.length) (hl : ts.length ≤ 2000000) (P : Nat) (v : Value) :
    j < ts.length ∧ Hid (∀ w1, Par P v ts i w1 → Calls Tryz.prog 84 #[.pointer (some ⟨P, 0, none⟩)] w1 fun e w' => e = .panicked tokPanic ∧ Goes P v ts j w1 w') := by
  unfold nameR at h
  by_cases hc : (nthT ts i).sort = 1
  · rw [if_pos hc] at h; cases h
  · rw [if_neg hc] at h
    cases h
    exact ⟨hi, fun w1 q => pname_no P v ts i w1 q hi hl hc⟩
theorem number_some {ts : List Tok} {n : Int} {i j : Nat} (h : numR ts i = (some n, j)) (hE : Ended ts) (hi : i < ts.length) (hl : ts.length ≤ 2000000) (P : Nat) (v : Value) :
    j < ts.length ∧ Hid (∀ w1, Par P v ts i w1 → Calls Tryz.prog 166 #[.pointer (some ⟨P, 0, none⟩)] w1 fun e w' => e = .returned (.int .i64 n) ∧ Goes P v ts j w1 w') := by
  unfold numR at h
  by_cases hc : (nthT ts i).sort = 2
  · rw [if_pos hc] at h
    cases h
    exact ⟨hE.sort_lt hi (by decide) hc, fun w1 q => pnumber_yes P v ts i w1 q hi hl hc⟩
  · rw [if_neg hc] at h; cases h
theorem number_none {ts : List Tok} {i j : Nat} (h : numR ts i = (none, j)) (hi : i < ts.length) (hl : ts.length ≤ 2000000) (P : Nat) (v : Value) :
    j < ts.length ∧ Hid (∀ w1, Par P v ts i w1 → Calls Tryz.prog 166 #[.pointer (some ⟨P, 0, none⟩)] w1 fun e w' => e = .panicked tokPanic ∧ Goes P v ts j w1 w') := by
  unfold numR at h
  by_cases hc : (nthT ts i).sort = 2
  · rw [if_pos hc] at h; cases h
  · rw [if_neg hc] at h
    cases h
    exact ⟨hi, fun w1 q => pnumber_no P v ts i w1 q hi hl hc⟩
theorem place_some {ts : List Tok} {p : Plc_k} {i j : Nat} (h : placeR ts i = (some p, j)) (hE : Ended ts) (hi : i < ts.length) (hl : ts.length ≤ 2000000) (P : Nat) (v : Value) :
    j < ts.length ∧ Hid (∀ w1, Par P v ts i w1 → Calls Tryz.prog 165 #[.pointer (some ⟨P, 0, none⟩)] w1 fun e w' => e = .returned (plV p) ∧ Goes P v ts j w1 w') := by
  unfold placeR nameR textR numR at h
  by_cases h1 : (nthT ts i).sort = 1
  · rw [if_pos h1, then_some] at h
    have hi1 := hE.sort_lt hi (by decide) h1
    by_cases h2 : (nthT ts (i + 1)).text = [46]
    · rw [if_pos h2, then_some] at h
      have hi2 := hE.text_lt hi1 (by decide) h2
      by_cases h3 : (nthT ts (i + 1 + 1)).sort = 2
      · rw [if_pos h3, then_some] at h
        cases h
        exact ⟨hE.sort_lt hi2 (by decide) h3, fun w1 q => place_yes P v ts i w1 q hE hi hl h1 h2 h3⟩
      · rw [if_neg h3, then_none] at h; cases h
    · rw [if_neg h2, then_none] at h; cases h
  · rw [if_neg h1, then_none] at h; cases h
theorem place_none {ts : List Tok} {i j : Nat} (h : placeR ts i = (none, j)) (hE : Ended ts) (hi : i < ts.length) (hl : ts.length ≤ 2000000) (P : Nat) (v : Value) :
    j < ts.length ∧ Hid (∀ w1, Par P v ts i w1 → Calls Tryz.prog 165 #[.pointer (some ⟨P, 0, none⟩)] w1 fun e w' => e = .panicked tokPanic ∧ Goes P v ts j w1 w') := by
  unfold placeR nameR textR numR at h
  by_cases h1 : (nthT ts i).sort = 1
  · rw [if_pos h1, then_some] at h
    have hi1 := hE.sort_lt hi (by decide) h1
    by_cases h2 : (nthT ts (i + 1)).text = [46]
    · rw [if_pos h2, then_some] at h
      have hi2 := hE.text_lt hi1 (by decide) h2
      by_cases h3 : (nthT ts (i + 1 + 1)).sort = 2
      · rw [if_pos h3, then_some] at h; cases h
      · rw [if_neg h3, then_none] at h
        cases h
        exact ⟨hi2, fun w1 q => place_no2 P v ts i w1 q hE hi hl h1 h2 h3⟩
    · rw [if_neg h2, then_none] at h
      cases h
      exact ⟨hi1, fun w1 q => place_no1 P v ts i w1 q hE hi hl h1 h2⟩
  · rw [if_neg h1, then_none] at h
    cases h
    exact ⟨hi, fun w1 q => place_no0 P v ts i w1 q hi hl h1⟩
/-! ### An item's variable -/
def Blk (T : TypeId) (n : Nat) (w : World) (cs : Array Value) : Prop := w.heap[n]? = some (.cells cs T (0, 0))
theorem Blk.lt {T n w cs} (h : Blk T n w cs) : n < w.heap.size := (Array.getElem?_eq_some_iff.1 h).1
theorem Blk.cell {T n w cs} (h : Blk T n w cs) {k : Nat} {x : Value} (hk : cs[k]? = some x) : w.cell? ⟨n, k, none⟩ = some x := by
  unfold Blk at h
  unfold World.cell?
  rw [h]
  exact hk
theorem Blk.frozen {T n w cs} (h : Blk T n w cs) (k : Nat) : w.frozen? ⟨n, k, none⟩ = false := by
  unfold Blk at h
  unfold World.frozen?
  rw [h]
  simp
theorem Blk.grown {T n w w' cs} {row : Option Nat} (h : Blk T n w cs) (hg : w.grownBy w' row) (hn : some n ≠ row) : Blk T n w' cs := (hg.block n h.lt hn).trans h
theorem Blk.below {T n w w' cs} (h : Blk T n w cs) (hb : Below w.heap.size w w') : Blk T n w' cs := (hb.block n h.lt).trans h
theorem Blk.other {T n w cs} (h : Blk T n w cs) {m k : Nat} (hn : n ≠ m) (u : Value) : Blk T n (w.setCell ⟨m, k, none⟩ u) cs := (Below.heap_setCell w _ _ n hn).trans h
theorem Blk.set {T n w cs} (h : Blk T n w cs) (k : Nat) (u : Value) : Blk T n (w.setCell ⟨n, k, none⟩ u) (cs.setIfInBounds k u) := heap_setCell_same w n k _ _ _ h
theorem blk_new (T : TypeId) (w : World) (cs : Array Value) : Blk T w.heap.size (w.alloc (.cells cs T)) cs := by show (w.heap.push _)[w.heap.size]? = _; simp
/-- An item's cells. -/
def itC_k (kind : Int) (nm tg : List UInt8) (r : Value) (f t : Plc_k) (pl : Int) : Array Value :=
  #[.int .u8 kind, .string (str nm), .string (str tg), r, .string (str f.name), .int .i64 f.port, .int .i64 f.place, .string (str t.name), .int .i64 t.port, .int .i64 t.place, .int .i64 pl]
theorem Ints_k.shape {base w r ns} (h : Ints_k base w r ns) : ∃ a c, r = .slice a ns.length c := by
  rcases h.2 with ⟨rfl, h0⟩ | ⟨g, cap, cur, rfl, -⟩
  · exact ⟨none, 0, by rw [h0]⟩
  · exact ⟨_, _, rfl⟩
theorem Ints_k.put {base w r ns} (h : Ints_k base w r ns) {I k : Nat} {u : Value} (hI : I < base) : Ints_k base (w.setCell ⟨I, k, none⟩ u) r ns := ownsRow_setCell_below h hI u
theorem Ints_k.mono {base base' w r ns} (h : Ints_k base w r ns) (hb : base' ≤ base) : Ints_k base' w r ns := owns_mono_k h hb
theorem Ints_k.below {base w w' r ns} (h : Ints_k base w r ns) (hb : Below w.heap.size w w') : Ints_k base w' r ns := owns_below_k h hb
theorem Ints_k.grown {base w w' r ns} {b : Nat} (h : Ints_k base w r ns) (hg : w.grownBy w' (some b)) (hb : b < base) : Ints_k base w' r ns := owns_grown_k h hg hb
/-- How the reading of an item's own part ends. -/
def BodyEnd (P : Nat) (v : Value) (ts : List Tok) (W0 : World) (I : Nat) (r : Rd Itm_k) (e : Ending) (w' : World) : Prop :=
  match r with
  | (some x, j) => e = .returned (.tuple #[]) ∧ (∃ ns, Blk 103 I w' (itC_k x.kind x.name x.tag ns x.frm x.to x.place) ∧ Ints_k W0.heap.size w' ns x.nums) ∧ Goes P v ts j W0 w' ∧ j < ts.length
  | (none, j) => e = .panicked tokPanic ∧ Goes P v ts j W0 w' ∧ j < ts.length
set_option maxRecDepth 100000 in
set_option maxHeartbeats 2000000 in
theorem actor_no2 (P : Nat) (v : Value) (ts : List Tok) (i : Nat) (W0 W : World) (I : Nat) (pl : Int) (_hpl : (nthT ts i).place = pl) (hG : Goes P v ts i W0 W) (hP0 : ∀ {n : Nat}, W0.heap.size ≤ n → v.ownBlock ≠ some n ∧ P ≠ n) (hI : W0.heap.size ≤ I) (hB : Blk 103 I W (itC_k 0 [] [] (.slice none 0 0) noPlc_k noPlc_k pl)) (hE : Ended ts) (hi : i < ts.length) (hl : ts.length ≤ 2000000) (j1 : Nat) (j2 : Nat) (h1 : textR ts [97, 99, 116, 111, 114] i = (some (), j1)) (h2 : nameR ts j1 = (none, j2)) :
    Calls Tryz.prog 138 #[.pointer (some ⟨P, 0, none⟩), .pointer (some ⟨I, 0, none⟩)] W (BodyEnd P v ts W0 I (actorR ts i)) := by
  have HM : actorR ts i = (none, j2) := by unfold actorR; rw [h1, then_some, h2, then_none]
  rw [HM]
  show Calls _ _ _ _ (fun e w' => e = .panicked tokPanic ∧ Goes P v ts j2 W0 w' ∧ j2 < ts.length)
  clear HM _hpl
  have HBK : Hid (v.ownBlock ≠ some I ∧ P ≠ I) := hP0 hI
  have HI := hidden hI
  have G0 := hidden hG
  have B0 := hidden hB
  clear hG hB hP0 hI
  have H1 : Hid (∀ w1, Par P v ts i w1 → Calls Tryz.prog 83 #[.pointer (some ⟨P, 0, none⟩), .string ⟨#[97, 99, 116, 111, 114]⟩] w1 fun e w' => e = .returned (.tuple #[]) ∧ Goes P v ts j1 w1 w') := (expect_some h1 hE hi hl (by decide) P v).2
  have hj1 : j1 < ts.length := (expect_some h1 hE hi hl (by decide) P v).1
  have H2 : Hid (∀ w1, Par P v ts j1 w1 → Calls Tryz.prog 84 #[.pointer (some ⟨P, 0, none⟩)] w1 fun e w' => e = .panicked tokPanic ∧ Goes P v ts j2 w1 w') := (name_none h2 hj1 hl P v).2
  have hj2 : j2 < ts.length := (name_none h2 hj1 hl P v).1
  clear h1 h2
  go_enter Tryz.func138, Tryz.ntmps138
  go_wp2_with (first
    | (go_at_call 84; (with_reducible refine (H2.out _ G1.out.par).mono ?_); rintro e w2 ⟨rfl, hg⟩; have G2 := hidden (G1.out.trans hg); clear hg)
    | (go_at_call 83; (with_reducible refine (H1.out _ G0.out.par).mono ?_); rintro e w1 ⟨rfl, hg⟩; have Bk := (B0.out.grown hg.grown (fun e => HBK.out.2 (Option.some.inj e).symm)); have c1_0 := Bk.cell (k := 0) rfl; have f1_0 := Bk.frozen 0; have G1 := hidden ((G0.out.trans hg).put (k := 0) HBK.out HI.out (.int .u8 1)); have B1 : Hid (Blk 103 I (w1.setCell ⟨I, 0, none⟩ (.int .u8 1)) (itC_k 1 [] [] (.slice none 0 0) noPlc_k noPlc_k pl)) := (Bk.set 0 (.int .u8 1)); clear hg Bk))
  exact ⟨rfl, rfl, G2.out, hj2⟩
set_option maxRecDepth 100000 in
set_option maxHeartbeats 2000000 in
theorem actor_no3 (P : Nat) (v : Value) (ts : List Tok) (i : Nat) (W0 W : World) (I : Nat) (pl : Int) (_hpl : (nthT ts i).place = pl) (hG : Goes P v ts i W0 W) (hP0 : ∀ {n : Nat}, W0.heap.size ≤ n → v.ownBlock ≠ some n ∧ P ≠ n) (hI : W0.heap.size ≤ I) (hB : Blk 103 I W (itC_k 0 [] [] (.slice none 0 0) noPlc_k noPlc_k pl)) (hE : Ended ts) (hi : i < ts.length) (hl : ts.length ≤ 2000000) (j1 : Nat) (j2 : Nat) (n2 : List UInt8) (j3 : Nat) (h1 : textR ts [97, 99, 116, 111, 114] i = (some (), j1)) (h2 : nameR ts j1 = (some n2, j2)) (h3 : textR ts [61] j2 = (none, j3)) :
    Calls Tryz.prog 138 #[.pointer (some ⟨P, 0, none⟩), .pointer (some ⟨I, 0, none⟩)] W (BodyEnd P v ts W0 I (actorR ts i)) := by
  have HM : actorR ts i = (none, j3) := by unfold actorR; rw [h1, then_some, h2, then_some, h3, then_none]
  rw [HM]
  show Calls _ _ _ _ (fun e w' => e = .panicked tokPanic ∧ Goes P v ts j3 W0 w' ∧ j3 < ts.length)
  clear HM _hpl
  have HBK : Hid (v.ownBlock ≠ some I ∧ P ≠ I) := hP0 hI
  have HI := hidden hI
  have G0 := hidden hG
  have B0 := hidden hB
  clear hG hB hP0 hI
  have H1 : Hid (∀ w1, Par P v ts i w1 → Calls Tryz.prog 83 #[.pointer (some ⟨P, 0, none⟩), .string ⟨#[97, 99, 116, 111, 114]⟩] w1 fun e w' => e = .returned (.tuple #[]) ∧ Goes P v ts j1 w1 w') := (expect_some h1 hE hi hl (by decide) P v).2
  have hj1 : j1 < ts.length := (expect_some h1 hE hi hl (by decide) P v).1
  have H2 : Hid (∀ w1, Par P v ts j1 w1 → Calls Tryz.prog 84 #[.pointer (some ⟨P, 0, none⟩)] w1 fun e w' => e = .returned (.string (str n2)) ∧ Goes P v ts j2 w1 w') := (name_some h2 hE hj1 hl P v).2
  have hj2 : j2 < ts.length := (name_some h2 hE hj1 hl P v).1
  have H3 : Hid (∀ w1, Par P v ts j2 w1 → Calls Tryz.prog 83 #[.pointer (some ⟨P, 0, none⟩), .string ⟨#[61]⟩] w1 fun e w' => e = .panicked tokPanic ∧ Goes P v ts j3 w1 w') := (expect_none h3 hj2 hl P v).2
  have hj3 : j3 < ts.length := (expect_none h3 hj2 hl P v).1
  clear h1 h2 h3
  go_enter Tryz.func138, Tryz.ntmps138
  go_wp2_with (first
    | (go_at_call 83; (with_reducible refine (H3.out _ G2.out.par).mono ?_); rintro e w3 ⟨rfl, hg⟩; have G3 := hidden (G2.out.trans hg); clear hg)
    | (go_at_call 84; (with_reducible refine (H2.out _ G1.out.par).mono ?_); rintro e w2 ⟨rfl, hg⟩; have Bk := (B1.out.grown hg.grown (fun e => HBK.out.2 (Option.some.inj e).symm)); have c2_1 := Bk.cell (k := 1) rfl; have f2_1 := Bk.frozen 1; have G2 := hidden ((G1.out.trans hg).put (k := 1) HBK.out HI.out (.string (str n2))); have B2 : Hid (Blk 103 I (w2.setCell ⟨I, 1, none⟩ (.string (str n2))) (itC_k 1 n2 [] (.slice none 0 0) noPlc_k noPlc_k pl)) := (Bk.set 1 (.string (str n2))); clear hg Bk)
    | (go_at_call 83; (with_reducible refine (H1.out _ G0.out.par).mono ?_); rintro e w1 ⟨rfl, hg⟩; have Bk := (B0.out.grown hg.grown (fun e => HBK.out.2 (Option.some.inj e).symm)); have c1_0 := Bk.cell (k := 0) rfl; have f1_0 := Bk.frozen 0; have G1 := hidden ((G0.out.trans hg).put (k := 0) HBK.out HI.out (.int .u8 1)); have B1 : Hid (Blk 103 I (w1.setCell ⟨I, 0, none⟩ (.int .u8 1)) (itC_k 1 [] [] (.slice none 0 0) noPlc_k noPlc_k pl)) := (Bk.set 0 (.int .u8 1)); clear hg Bk))
  exact ⟨rfl, rfl, G3.out, hj3⟩
set_option maxRecDepth 100000 in
set_option maxHeartbeats 2000000 in
theorem actor_no4 (P : Nat) (v : Value) (ts : List Tok) (i : Nat) (W0 W : World) (I : Nat) (pl : Int) (_hpl : (nthT ts i).place = pl) (hG : Goes P v ts i W0 W) (hP0 : ∀ {n : Nat}, W0.heap.size ≤ n → v.ownBlock ≠ some n ∧ P ≠ n) (hI : W0.heap.size ≤ I) (hB : Blk 103 I W (itC_k 0 [] [] (.slice none 0 0) noPlc_k noPlc_k pl)) (hE : Ended ts) (hi : i < ts.length) (hl : ts.length ≤ 2000000) (j1 : Nat) (j2 : Nat) (n2 : List UInt8) (j3 : Nat) (j4 : Nat) (h1 : textR ts [97, 99, 116, 111, 114] i = (some (), j1)) (h2 : nameR ts j1 = (some n2, j2)) (h3 : textR ts [61] j2 = (some (), j3)) (h4 : nameR ts j3 = (none, j4)) :
    Calls Tryz.prog 138 #[.pointer (some ⟨P, 0, none⟩), .pointer (some ⟨I, 0, none⟩)] W (BodyEnd P v ts W0 I (actorR ts i)) := by
  have HM : actorR ts i = (none, j4) := by unfold actorR; rw [h1, then_some, h2, then_some, h3, then_some, h4, then_none]
  rw [HM]
  show Calls _ _ _ _ (fun e w' => e = .panicked tokPanic ∧ Goes P v ts j4 W0 w' ∧ j4 < ts.length)
  clear HM _hpl
  have HBK : Hid (v.ownBlock ≠ some I ∧ P ≠ I) := hP0 hI
  have HI := hidden hI
  have G0 := hidden hG
  have B0 := hidden hB
  clear hG hB hP0 hI
  have H1 : Hid (∀ w1, Par P v ts i w1 → Calls Tryz.prog 83 #[.pointer (some ⟨P, 0, none⟩), .string ⟨#[97, 99, 116, 111, 114]⟩] w1 fun e w' => e = .returned (.tuple #[]) ∧ Goes P v ts j1 w1 w') := (expect_some h1 hE hi hl (by decide) P v).2
  have hj1 : j1 < ts.length := (expect_some h1 hE hi hl (by decide) P v).1
  have H2 : Hid (∀ w1, Par P v ts j1 w1 → Calls Tryz.prog 84 #[.pointer (some ⟨P, 0, none⟩)] w1 fun e w' => e = .returned (.string (str n2)) ∧ Goes P v ts j2 w1 w') := (name_some h2 hE hj1 hl P v).2
  have hj2 : j2 < ts.length := (name_some h2 hE hj1 hl P v).1
  have H3 : Hid (∀ w1, Par P v ts j2 w1 → Calls Tryz.prog 83 #[.pointer (some ⟨P, 0, none⟩), .string ⟨#[61]⟩] w1 fun e w' => e = .returned (.tuple #[]) ∧ Goes P v ts j3 w1 w') := (expect_some h3 hE hj2 hl (by decide) P v).2
  have hj3 : j3 < ts.length := (expect_some h3 hE hj2 hl (by decide) P v).1
  have H4 : Hid (∀ w1, Par P v ts j3 w1 → Calls Tryz.prog 84 #[.pointer (some ⟨P, 0, none⟩)] w1 fun e w' => e = .panicked tokPanic ∧ Goes P v ts j4 w1 w') := (name_none h4 hj3 hl P v).2
  have hj4 : j4 < ts.length := (name_none h4 hj3 hl P v).1
  clear h1 h2 h3 h4
  go_enter Tryz.func138, Tryz.ntmps138
  go_wp2_with (first
    | (go_at_call 84; (with_reducible refine (H4.out _ G3.out.par).mono ?_); rintro e w4 ⟨rfl, hg⟩; have G4 := hidden (G3.out.trans hg); clear hg)
    | (go_at_call 83; (with_reducible refine (H3.out _ G2.out.par).mono ?_); rintro e w3 ⟨rfl, hg⟩; have Bk := (B2.out.grown hg.grown (fun e => HBK.out.2 (Option.some.inj e).symm)); have G3 := hidden (G2.out.trans hg); have B3 : Hid (Blk 103 I w3 (itC_k 1 n2 [] (.slice none 0 0) noPlc_k noPlc_k pl)) := Bk; clear hg Bk)
    | (go_at_call 84; (with_reducible refine (H2.out _ G1.out.par).mono ?_); rintro e w2 ⟨rfl, hg⟩; have Bk := (B1.out.grown hg.grown (fun e => HBK.out.2 (Option.some.inj e).symm)); have c2_1 := Bk.cell (k := 1) rfl; have f2_1 := Bk.frozen 1; have G2 := hidden ((G1.out.trans hg).put (k := 1) HBK.out HI.out (.string (str n2))); have B2 : Hid (Blk 103 I (w2.setCell ⟨I, 1, none⟩ (.string (str n2))) (itC_k 1 n2 [] (.slice none 0 0) noPlc_k noPlc_k pl)) := (Bk.set 1 (.string (str n2))); clear hg Bk)
    | (go_at_call 83; (with_reducible refine (H1.out _ G0.out.par).mono ?_); rintro e w1 ⟨rfl, hg⟩; have Bk := (B0.out.grown hg.grown (fun e => HBK.out.2 (Option.some.inj e).symm)); have c1_0 := Bk.cell (k := 0) rfl; have f1_0 := Bk.frozen 0; have G1 := hidden ((G0.out.trans hg).put (k := 0) HBK.out HI.out (.int .u8 1)); have B1 : Hid (Blk 103 I (w1.setCell ⟨I, 0, none⟩ (.int .u8 1)) (itC_k 1 [] [] (.slice none 0 0) noPlc_k noPlc_k pl)) := (Bk.set 0 (.int .u8 1)); clear hg Bk))
  exact ⟨rfl, rfl, G4.out, hj4⟩
set_option maxRecDepth 100000 in
set_option maxHeartbeats 2000000 in
theorem actor_all (P : Nat) (v : Value) (ts : List Tok) (i : Nat) (W0 W : World) (I : Nat) (pl : Int) (hpl : (nthT ts i).place = pl) (hG : Goes P v ts i W0 W) (hP0 : ∀ {n : Nat}, W0.heap.size ≤ n → v.ownBlock ≠ some n ∧ P ≠ n) (hI : W0.heap.size ≤ I) (hB : Blk 103 I W (itC_k 0 [] [] (.slice none 0 0) noPlc_k noPlc_k pl)) (hE : Ended ts) (hi : i < ts.length) (hl : ts.length ≤ 2000000) (j1 : Nat) (j2 : Nat) (n2 : List UInt8) (j3 : Nat) (j4 : Nat) (n4 : List UInt8) (h1 : textR ts [97, 99, 116, 111, 114] i = (some (), j1)) (h2 : nameR ts j1 = (some n2, j2)) (h3 : textR ts [61] j2 = (some (), j3)) (h4 : nameR ts j3 = (some n4, j4)) :
    Calls Tryz.prog 138 #[.pointer (some ⟨P, 0, none⟩), .pointer (some ⟨I, 0, none⟩)] W (BodyEnd P v ts W0 I (actorR ts i)) := by
  have HM : actorR ts i = (some ⟨1, n2, n4, numsR ts j4, noPlc_k, noPlc_k, pl⟩, (j4 + (numsR ts j4).length)) := by unfold actorR; rw [h1, then_some, h2, then_some, h3, then_some, h4, then_some, hpl]
  rw [HM]
  show Calls _ _ _ _ (fun e w' => e = .returned (.tuple #[]) ∧ (∃ ns, Blk 103 I w' (itC_k 1 n2 n4 ns noPlc_k noPlc_k pl) ∧ Ints_k W0.heap.size w' ns (numsR ts j4)) ∧ Goes P v ts (j4 + (numsR ts j4).length) W0 w' ∧ (j4 + (numsR ts j4).length) < ts.length)
  clear HM hpl
  have HBK : Hid (v.ownBlock ≠ some I ∧ P ≠ I) := hP0 hI
  have HI := hidden hI
  have G0 := hidden hG
  have B0 := hidden hB
  clear hG hB hP0 hI
  have H1 : Hid (∀ w1, Par P v ts i w1 → Calls Tryz.prog 83 #[.pointer (some ⟨P, 0, none⟩), .string ⟨#[97, 99, 116, 111, 114]⟩] w1 fun e w' => e = .returned (.tuple #[]) ∧ Goes P v ts j1 w1 w') := (expect_some h1 hE hi hl (by decide) P v).2
  have hj1 : j1 < ts.length := (expect_some h1 hE hi hl (by decide) P v).1
  have H2 : Hid (∀ w1, Par P v ts j1 w1 → Calls Tryz.prog 84 #[.pointer (some ⟨P, 0, none⟩)] w1 fun e w' => e = .returned (.string (str n2)) ∧ Goes P v ts j2 w1 w') := (name_some h2 hE hj1 hl P v).2
  have hj2 : j2 < ts.length := (name_some h2 hE hj1 hl P v).1
  have H3 : Hid (∀ w1, Par P v ts j2 w1 → Calls Tryz.prog 83 #[.pointer (some ⟨P, 0, none⟩), .string ⟨#[61]⟩] w1 fun e w' => e = .returned (.tuple #[]) ∧ Goes P v ts j3 w1 w') := (expect_some h3 hE hj2 hl (by decide) P v).2
  have hj3 : j3 < ts.length := (expect_some h3 hE hj2 hl (by decide) P v).1
  have H4 : Hid (∀ w1, Par P v ts j3 w1 → Calls Tryz.prog 84 #[.pointer (some ⟨P, 0, none⟩)] w1 fun e w' => e = .returned (.string (str n4)) ∧ Goes P v ts j4 w1 w') := (name_some h4 hE hj3 hl P v).2
  have hj4 : j4 < ts.length := (name_some h4 hE hj3 hl P v).1
  have H5 : Hid (∀ w1, Par P v ts j4 w1 → Calls Tryz.prog 164 #[.pointer (some ⟨P, 0, none⟩)] w1 fun e w' => ∃ a c, e = .returned (.slice a (numsR ts j4).length c) ∧ Ints_k w1.heap.size w' (.slice a (numsR ts j4).length c) (numsR ts j4) ∧ Goes P v ts (j4 + (numsR ts j4).length) w1 w' ∧ j4 + (numsR ts j4).length < ts.length) := fun w1 q => (numbers_at P v ts j4 w1 q hE hj4 hl).mono fun _ _ ⟨r, he, hn, hr⟩ => by { obtain ⟨a, c, rfl⟩ := hn.shape; exact ⟨a, c, he, hn, hr⟩ }
  clear h1 h2 h3 h4
  go_enter Tryz.func138, Tryz.ntmps138
  go_wp2_with (first
    | (go_at_call 164; (with_reducible refine (H5.out _ G4.out.par).mono ?_); rintro e w5 ⟨a5, k5, rfl, hin, hg, hj⟩; have Bk := (B4.out.grown hg.grown (fun e => HBK.out.2 (Option.some.inj e).symm)); have c5_3 := Bk.cell (k := 3) rfl; have f5_3 := Bk.frozen 3; have G5 := hidden ((G4.out.trans hg).put (k := 3) HBK.out HI.out (.slice a5 (numsR ts j4).length k5)); have B5 : Hid (Blk 103 I (w5.setCell ⟨I, 3, none⟩ (.slice a5 (numsR ts j4).length k5)) (itC_k 1 n2 n4 (.slice a5 (numsR ts j4).length k5) noPlc_k noPlc_k pl)) := (Bk.set 3 (.slice a5 (numsR ts j4).length k5)); have IN : Hid (Ints_k W0.heap.size (w5.setCell ⟨I, 3, none⟩ (.slice a5 (numsR ts j4).length k5)) (.slice a5 (numsR ts j4).length k5) (numsR ts j4)) := (hin.put B4.out.lt).mono (Nat.le_trans HI.out (Nat.le_of_lt B4.out.lt)); have HJ := hidden hj; clear hin hj; clear hg Bk)
    | (go_at_call 84; (with_reducible refine (H4.out _ G3.out.par).mono ?_); rintro e w4 ⟨rfl, hg⟩; have Bk := (B3.out.grown hg.grown (fun e => HBK.out.2 (Option.some.inj e).symm)); have c4_2 := Bk.cell (k := 2) rfl; have f4_2 := Bk.frozen 2; have G4 := hidden ((G3.out.trans hg).put (k := 2) HBK.out HI.out (.string (str n4))); have B4 : Hid (Blk 103 I (w4.setCell ⟨I, 2, none⟩ (.string (str n4))) (itC_k 1 n2 n4 (.slice none 0 0) noPlc_k noPlc_k pl)) := (Bk.set 2 (.string (str n4))); clear hg Bk)
    | (go_at_call 83; (with_reducible refine (H3.out _ G2.out.par).mono ?_); rintro e w3 ⟨rfl, hg⟩; have Bk := (B2.out.grown hg.grown (fun e => HBK.out.2 (Option.some.inj e).symm)); have G3 := hidden (G2.out.trans hg); have B3 : Hid (Blk 103 I w3 (itC_k 1 n2 [] (.slice none 0 0) noPlc_k noPlc_k pl)) := Bk; clear hg Bk)
    | (go_at_call 84; (with_reducible refine (H2.out _ G1.out.par).mono ?_); rintro e w2 ⟨rfl, hg⟩; have Bk := (B1.out.grown hg.grown (fun e => HBK.out.2 (Option.some.inj e).symm)); have c2_1 := Bk.cell (k := 1) rfl; have f2_1 := Bk.frozen 1; have G2 := hidden ((G1.out.trans hg).put (k := 1) HBK.out HI.out (.string (str n2))); have B2 : Hid (Blk 103 I (w2.setCell ⟨I, 1, none⟩ (.string (str n2))) (itC_k 1 n2 [] (.slice none 0 0) noPlc_k noPlc_k pl)) := (Bk.set 1 (.string (str n2))); clear hg Bk)
    | (go_at_call 83; (with_reducible refine (H1.out _ G0.out.par).mono ?_); rintro e w1 ⟨rfl, hg⟩; have Bk := (B0.out.grown hg.grown (fun e => HBK.out.2 (Option.some.inj e).symm)); have c1_0 := Bk.cell (k := 0) rfl; have f1_0 := Bk.frozen 0; have G1 := hidden ((G0.out.trans hg).put (k := 0) HBK.out HI.out (.int .u8 1)); have B1 : Hid (Blk 103 I (w1.setCell ⟨I, 0, none⟩ (.int .u8 1)) (itC_k 1 [] [] (.slice none 0 0) noPlc_k noPlc_k pl)) := (Bk.set 0 (.int .u8 1)); clear hg Bk))
  go_end0
  exact ⟨rfl, ⟨_, B5.out, IN.out⟩, G5.out, HJ.out⟩
theorem actor_any (P : Nat) (v : Value) (ts : List Tok) (i : Nat) (W0 W : World) (I : Nat) (pl : Int) (hpl : (nthT ts i).place = pl) (hG : Goes P v ts i W0 W) (hP0 : ∀ {n : Nat}, W0.heap.size ≤ n → v.ownBlock ≠ some n ∧ P ≠ n) (hI : W0.heap.size ≤ I) (hB : Blk 103 I W (itC_k 0 [] [] (.slice none 0 0) noPlc_k noPlc_k pl)) (hE : Ended ts) (hi : i < ts.length) (hl : ts.length ≤ 2000000) (ht : (nthT ts i).text = [97, 99, 116, 111, 114]) :
    Calls Tryz.prog 138 #[.pointer (some ⟨P, 0, none⟩), .pointer (some ⟨I, 0, none⟩)] W (BodyEnd P v ts W0 I (actorR ts i)) := by
  rcases h1 : textR ts [97, 99, 116, 111, 114] i with ⟨_ | ⟨⟩, j1⟩
  · unfold textR at h1; rw [if_pos ht] at h1; cases h1
  · rcases h2 : nameR ts j1 with ⟨_ | n2, j2⟩
    · exact actor_no2 P v ts i W0 W I pl hpl hG hP0 hI hB hE hi hl j1 j2 h1 h2
    · rcases h3 : textR ts [61] j2 with ⟨_ | ⟨⟩, j3⟩
      · exact actor_no3 P v ts i W0 W I pl hpl hG hP0 hI hB hE hi hl j1 j2 n2 j3 h1 h2 h3
      · rcases h4 : nameR ts j3 with ⟨_ | n4, j4⟩
        · exact actor_no4 P v ts i W0 W I pl hpl hG hP0 hI hB hE hi hl j1 j2 n2 j3 j4 h1 h2 h3 h4
        · exact actor_all P v ts i W0 W I pl hpl hG hP0 hI hB hE hi hl j1 j2 n2 j3 j4 n4 h1 h2 h3 h4
set_option maxRecDepth 100000 in
set_option maxHeartbeats 2000000 in
theorem inB_no2 (P : Nat) (v : Value) (ts : List Tok) (i : Nat) (W0 W : World) (I : Nat) (pl : Int) (_hpl : (nthT ts i).place = pl) (hG : Goes P v ts i W0 W) (hP0 : ∀ {n : Nat}, W0.heap.size ≤ n → v.ownBlock ≠ some n ∧ P ≠ n) (hI : W0.heap.size ≤ I) (hB : Blk 103 I W (itC_k 0 [] [] (.slice none 0 0) noPlc_k noPlc_k pl)) (hE : Ended ts) (hi : i < ts.length) (hl : ts.length ≤ 2000000) (j1 : Nat) (j2 : Nat) (h1 : textR ts [105, 110] i = (some (), j1)) (h2 : nameR ts j1 = (none, j2)) :
    Calls Tryz.prog 140 #[.pointer (some ⟨P, 0, none⟩), .pointer (some ⟨I, 0, none⟩)] W (BodyEnd P v ts W0 I (inR ts i)) := by
  have HM : inR ts i = (none, j2) := by unfold inR; rw [h1, then_some, h2, then_none]
  rw [HM]
  show Calls _ _ _ _ (fun e w' => e = .panicked tokPanic ∧ Goes P v ts j2 W0 w' ∧ j2 < ts.length)
  clear HM _hpl
  have HBK : Hid (v.ownBlock ≠ some I ∧ P ≠ I) := hP0 hI
  have HI := hidden hI
  have G0 := hidden hG
  have B0 := hidden hB
  clear hG hB hP0 hI
  have H1 : Hid (∀ w1, Par P v ts i w1 → Calls Tryz.prog 83 #[.pointer (some ⟨P, 0, none⟩), .string ⟨#[105, 110]⟩] w1 fun e w' => e = .returned (.tuple #[]) ∧ Goes P v ts j1 w1 w') := (expect_some h1 hE hi hl (by decide) P v).2
  have hj1 : j1 < ts.length := (expect_some h1 hE hi hl (by decide) P v).1
  have H2 : Hid (∀ w1, Par P v ts j1 w1 → Calls Tryz.prog 84 #[.pointer (some ⟨P, 0, none⟩)] w1 fun e w' => e = .panicked tokPanic ∧ Goes P v ts j2 w1 w') := (name_none h2 hj1 hl P v).2
  have hj2 : j2 < ts.length := (name_none h2 hj1 hl P v).1
  clear h1 h2
  go_enter Tryz.func140, Tryz.ntmps140
  go_wp2_with (first
    | (go_at_call 84; (with_reducible refine (H2.out _ G1.out.par).mono ?_); rintro e w2 ⟨rfl, hg⟩; have G2 := hidden (G1.out.trans hg); clear hg)
    | (go_at_call 83; (with_reducible refine (H1.out _ G0.out.par).mono ?_); rintro e w1 ⟨rfl, hg⟩; have Bk := (B0.out.grown hg.grown (fun e => HBK.out.2 (Option.some.inj e).symm)); have c1_0 := Bk.cell (k := 0) rfl; have f1_0 := Bk.frozen 0; have G1 := hidden ((G0.out.trans hg).put (k := 0) HBK.out HI.out (.int .u8 3)); have B1 : Hid (Blk 103 I (w1.setCell ⟨I, 0, none⟩ (.int .u8 3)) (itC_k 3 [] [] (.slice none 0 0) noPlc_k noPlc_k pl)) := (Bk.set 0 (.int .u8 3)); clear hg Bk))
  exact ⟨rfl, rfl, G2.out, hj2⟩
set_option maxRecDepth 100000 in
set_option maxHeartbeats 2000000 in
theorem inB_no3 (P : Nat) (v : Value) (ts : List Tok) (i : Nat) (W0 W : World) (I : Nat) (pl : Int) (_hpl : (nthT ts i).place = pl) (hG : Goes P v ts i W0 W) (hP0 : ∀ {n : Nat}, W0.heap.size ≤ n → v.ownBlock ≠ some n ∧ P ≠ n) (hI : W0.heap.size ≤ I) (hB : Blk 103 I W (itC_k 0 [] [] (.slice none 0 0) noPlc_k noPlc_k pl)) (hE : Ended ts) (hi : i < ts.length) (hl : ts.length ≤ 2000000) (j1 : Nat) (j2 : Nat) (n2 : List UInt8) (j3 : Nat) (h1 : textR ts [105, 110] i = (some (), j1)) (h2 : nameR ts j1 = (some n2, j2)) (h3 : textR ts [45, 62] j2 = (none, j3)) :
    Calls Tryz.prog 140 #[.pointer (some ⟨P, 0, none⟩), .pointer (some ⟨I, 0, none⟩)] W (BodyEnd P v ts W0 I (inR ts i)) := by
  have HM : inR ts i = (none, j3) := by unfold inR; rw [h1, then_some, h2, then_some, h3, then_none]
  rw [HM]
  show Calls _ _ _ _ (fun e w' => e = .panicked tokPanic ∧ Goes P v ts j3 W0 w' ∧ j3 < ts.length)
  clear HM _hpl
  have HBK : Hid (v.ownBlock ≠ some I ∧ P ≠ I) := hP0 hI
  have HI := hidden hI
  have G0 := hidden hG
  have B0 := hidden hB
  clear hG hB hP0 hI
  have H1 : Hid (∀ w1, Par P v ts i w1 → Calls Tryz.prog 83 #[.pointer (some ⟨P, 0, none⟩), .string ⟨#[105, 110]⟩] w1 fun e w' => e = .returned (.tuple #[]) ∧ Goes P v ts j1 w1 w') := (expect_some h1 hE hi hl (by decide) P v).2
  have hj1 : j1 < ts.length := (expect_some h1 hE hi hl (by decide) P v).1
  have H2 : Hid (∀ w1, Par P v ts j1 w1 → Calls Tryz.prog 84 #[.pointer (some ⟨P, 0, none⟩)] w1 fun e w' => e = .returned (.string (str n2)) ∧ Goes P v ts j2 w1 w') := (name_some h2 hE hj1 hl P v).2
  have hj2 : j2 < ts.length := (name_some h2 hE hj1 hl P v).1
  have H3 : Hid (∀ w1, Par P v ts j2 w1 → Calls Tryz.prog 83 #[.pointer (some ⟨P, 0, none⟩), .string ⟨#[45, 62]⟩] w1 fun e w' => e = .panicked tokPanic ∧ Goes P v ts j3 w1 w') := (expect_none h3 hj2 hl P v).2
  have hj3 : j3 < ts.length := (expect_none h3 hj2 hl P v).1
  clear h1 h2 h3
  go_enter Tryz.func140, Tryz.ntmps140
  go_wp2_with (first
    | (go_at_call 83; (with_reducible refine (H3.out _ G2.out.par).mono ?_); rintro e w3 ⟨rfl, hg⟩; have G3 := hidden (G2.out.trans hg); clear hg)
    | (go_at_call 84; (with_reducible refine (H2.out _ G1.out.par).mono ?_); rintro e w2 ⟨rfl, hg⟩; have Bk := (B1.out.grown hg.grown (fun e => HBK.out.2 (Option.some.inj e).symm)); have c2_1 := Bk.cell (k := 1) rfl; have f2_1 := Bk.frozen 1; have G2 := hidden ((G1.out.trans hg).put (k := 1) HBK.out HI.out (.string (str n2))); have B2 : Hid (Blk 103 I (w2.setCell ⟨I, 1, none⟩ (.string (str n2))) (itC_k 3 n2 [] (.slice none 0 0) noPlc_k noPlc_k pl)) := (Bk.set 1 (.string (str n2))); clear hg Bk)
    | (go_at_call 83; (with_reducible refine (H1.out _ G0.out.par).mono ?_); rintro e w1 ⟨rfl, hg⟩; have Bk := (B0.out.grown hg.grown (fun e => HBK.out.2 (Option.some.inj e).symm)); have c1_0 := Bk.cell (k := 0) rfl; have f1_0 := Bk.frozen 0; have G1 := hidden ((G0.out.trans hg).put (k := 0) HBK.out HI.out (.int .u8 3)); have B1 : Hid (Blk 103 I (w1.setCell ⟨I, 0, none⟩ (.int .u8 3)) (itC_k 3 [] [] (.slice none 0 0) noPlc_k noPlc_k pl)) := (Bk.set 0 (.int .u8 3)); clear hg Bk))
  exact ⟨rfl, rfl, G3.out, hj3⟩
set_option maxRecDepth 100000 in
set_option maxHeartbeats 2000000 in
theorem inB_no4 (P : Nat) (v : Value) (ts : List Tok) (i : Nat) (W0 W : World) (I : Nat) (pl : Int) (_hpl : (nthT ts i).place = pl) (hG : Goes P v ts i W0 W) (hP0 : ∀ {n : Nat}, W0.heap.size ≤ n → v.ownBlock ≠ some n ∧ P ≠ n) (hI : W0.heap.size ≤ I) (hB : Blk 103 I W (itC_k 0 [] [] (.slice none 0 0) noPlc_k noPlc_k pl)) (hE : Ended ts) (hi : i < ts.length) (hl : ts.length ≤ 2000000) (j1 : Nat) (j2 : Nat) (n2 : List UInt8) (j3 : Nat) (j4 : Nat) (h1 : textR ts [105, 110] i = (some (), j1)) (h2 : nameR ts j1 = (some n2, j2)) (h3 : textR ts [45, 62] j2 = (some (), j3)) (h4 : placeR ts j3 = (none, j4)) :
    Calls Tryz.prog 140 #[.pointer (some ⟨P, 0, none⟩), .pointer (some ⟨I, 0, none⟩)] W (BodyEnd P v ts W0 I (inR ts i)) := by
  have HM : inR ts i = (none, j4) := by unfold inR; rw [h1, then_some, h2, then_some, h3, then_some, h4, then_none]
  rw [HM]
  show Calls _ _ _ _ (fun e w' => e = .panicked tokPanic ∧ Goes P v ts j4 W0 w' ∧ j4 < ts.length)
  clear HM _hpl
  have HBK : Hid (v.ownBlock ≠ some I ∧ P ≠ I) := hP0 hI
  have HI := hidden hI
  have G0 := hidden hG
  have B0 := hidden hB
  clear hG hB hP0 hI
  have H1 : Hid (∀ w1, Par P v ts i w1 → Calls Tryz.prog 83 #[.pointer (some ⟨P, 0, none⟩), .string ⟨#[105, 110]⟩] w1 fun e w' => e = .returned (.tuple #[]) ∧ Goes P v ts j1 w1 w') := (expect_some h1 hE hi hl (by decide) P v).2
  have hj1 : j1 < ts.length := (expect_some h1 hE hi hl (by decide) P v).1
  have H2 : Hid (∀ w1, Par P v ts j1 w1 → Calls Tryz.prog 84 #[.pointer (some ⟨P, 0, none⟩)] w1 fun e w' => e = .returned (.string (str n2)) ∧ Goes P v ts j2 w1 w') := (name_some h2 hE hj1 hl P v).2
  have hj2 : j2 < ts.length := (name_some h2 hE hj1 hl P v).1
  have H3 : Hid (∀ w1, Par P v ts j2 w1 → Calls Tryz.prog 83 #[.pointer (some ⟨P, 0, none⟩), .string ⟨#[45, 62]⟩] w1 fun e w' => e = .returned (.tuple #[]) ∧ Goes P v ts j3 w1 w') := (expect_some h3 hE hj2 hl (by decide) P v).2
  have hj3 : j3 < ts.length := (expect_some h3 hE hj2 hl (by decide) P v).1
  have H4 : Hid (∀ w1, Par P v ts j3 w1 → Calls Tryz.prog 165 #[.pointer (some ⟨P, 0, none⟩)] w1 fun e w' => e = .panicked tokPanic ∧ Goes P v ts j4 w1 w') := (place_none h4 hE hj3 hl P v).2
  have hj4 : j4 < ts.length := (place_none h4 hE hj3 hl P v).1
  clear h1 h2 h3 h4
  go_enter Tryz.func140, Tryz.ntmps140
  go_wp2_with (first
    | (go_at_call 165; (with_reducible refine (H4.out _ G3.out.par).mono ?_); rintro e w4 ⟨rfl, hg⟩; have G4 := hidden (G3.out.trans hg); clear hg)
    | (go_at_call 83; (with_reducible refine (H3.out _ G2.out.par).mono ?_); rintro e w3 ⟨rfl, hg⟩; have Bk := (B2.out.grown hg.grown (fun e => HBK.out.2 (Option.some.inj e).symm)); have G3 := hidden (G2.out.trans hg); have B3 : Hid (Blk 103 I w3 (itC_k 3 n2 [] (.slice none 0 0) noPlc_k noPlc_k pl)) := Bk; clear hg Bk)
    | (go_at_call 84; (with_reducible refine (H2.out _ G1.out.par).mono ?_); rintro e w2 ⟨rfl, hg⟩; have Bk := (B1.out.grown hg.grown (fun e => HBK.out.2 (Option.some.inj e).symm)); have c2_1 := Bk.cell (k := 1) rfl; have f2_1 := Bk.frozen 1; have G2 := hidden ((G1.out.trans hg).put (k := 1) HBK.out HI.out (.string (str n2))); have B2 : Hid (Blk 103 I (w2.setCell ⟨I, 1, none⟩ (.string (str n2))) (itC_k 3 n2 [] (.slice none 0 0) noPlc_k noPlc_k pl)) := (Bk.set 1 (.string (str n2))); clear hg Bk)
    | (go_at_call 83; (with_reducible refine (H1.out _ G0.out.par).mono ?_); rintro e w1 ⟨rfl, hg⟩; have Bk := (B0.out.grown hg.grown (fun e => HBK.out.2 (Option.some.inj e).symm)); have c1_0 := Bk.cell (k := 0) rfl; have f1_0 := Bk.frozen 0; have G1 := hidden ((G0.out.trans hg).put (k := 0) HBK.out HI.out (.int .u8 3)); have B1 : Hid (Blk 103 I (w1.setCell ⟨I, 0, none⟩ (.int .u8 3)) (itC_k 3 [] [] (.slice none 0 0) noPlc_k noPlc_k pl)) := (Bk.set 0 (.int .u8 3)); clear hg Bk))
  exact ⟨rfl, rfl, G4.out, hj4⟩
set_option maxRecDepth 100000 in
set_option maxHeartbeats 2000000 in
theorem inB_all (P : Nat) (v : Value) (ts : List Tok) (i : Nat) (W0 W : World) (I : Nat) (pl : Int) (hpl : (nthT ts i).place = pl) (hG : Goes P v ts i W0 W) (hP0 : ∀ {n : Nat}, W0.heap.size ≤ n → v.ownBlock ≠ some n ∧ P ≠ n) (hI : W0.heap.size ≤ I) (hB : Blk 103 I W (itC_k 0 [] [] (.slice none 0 0) noPlc_k noPlc_k pl)) (hE : Ended ts) (hi : i < ts.length) (hl : ts.length ≤ 2000000) (j1 : Nat) (j2 : Nat) (n2 : List UInt8) (j3 : Nat) (j4 : Nat) (p4 : Plc_k) (h1 : textR ts [105, 110] i = (some (), j1)) (h2 : nameR ts j1 = (some n2, j2)) (h3 : textR ts [45, 62] j2 = (some (), j3)) (h4 : placeR ts j3 = (some p4, j4)) :
    Calls Tryz.prog 140 #[.pointer (some ⟨P, 0, none⟩), .pointer (some ⟨I, 0, none⟩)] W (BodyEnd P v ts W0 I (inR ts i)) := by
  have HM : inR ts i = (some ⟨3, n2, [], [], noPlc_k, p4, pl⟩, j4) := by unfold inR; rw [h1, then_some, h2, then_some, h3, then_some, h4, then_some, hpl]
  rw [HM]
  show Calls _ _ _ _ (fun e w' => e = .returned (.tuple #[]) ∧ (∃ ns, Blk 103 I w' (itC_k 3 n2 [] ns noPlc_k p4 pl) ∧ Ints_k W0.heap.size w' ns []) ∧ Goes P v ts j4 W0 w' ∧ j4 < ts.length)
  clear HM hpl
  have HBK : Hid (v.ownBlock ≠ some I ∧ P ≠ I) := hP0 hI
  have HI := hidden hI
  have G0 := hidden hG
  have B0 := hidden hB
  clear hG hB hP0 hI
  have H1 : Hid (∀ w1, Par P v ts i w1 → Calls Tryz.prog 83 #[.pointer (some ⟨P, 0, none⟩), .string ⟨#[105, 110]⟩] w1 fun e w' => e = .returned (.tuple #[]) ∧ Goes P v ts j1 w1 w') := (expect_some h1 hE hi hl (by decide) P v).2
  have hj1 : j1 < ts.length := (expect_some h1 hE hi hl (by decide) P v).1
  have H2 : Hid (∀ w1, Par P v ts j1 w1 → Calls Tryz.prog 84 #[.pointer (some ⟨P, 0, none⟩)] w1 fun e w' => e = .returned (.string (str n2)) ∧ Goes P v ts j2 w1 w') := (name_some h2 hE hj1 hl P v).2
  have hj2 : j2 < ts.length := (name_some h2 hE hj1 hl P v).1
  have H3 : Hid (∀ w1, Par P v ts j2 w1 → Calls Tryz.prog 83 #[.pointer (some ⟨P, 0, none⟩), .string ⟨#[45, 62]⟩] w1 fun e w' => e = .returned (.tuple #[]) ∧ Goes P v ts j3 w1 w') := (expect_some h3 hE hj2 hl (by decide) P v).2
  have hj3 : j3 < ts.length := (expect_some h3 hE hj2 hl (by decide) P v).1
  have H4 : Hid (∀ w1, Par P v ts j3 w1 → Calls Tryz.prog 165 #[.pointer (some ⟨P, 0, none⟩)] w1 fun e w' => e = .returned (.agg #[.string (str p4.name), .int .i64 p4.port, .int .i64 p4.place]) ∧ Goes P v ts j4 w1 w') := (place_some h4 hE hj3 hl P v).2
  have hj4 : j4 < ts.length := (place_some h4 hE hj3 hl P v).1
  clear h1 h2 h3 h4
  go_enter Tryz.func140, Tryz.ntmps140
  go_wp2_with (first
    | (go_at_call 165; (with_reducible refine (H4.out _ G3.out.par).mono ?_); rintro e w4 ⟨rfl, hg⟩; have Bk := (B3.out.grown hg.grown (fun e => HBK.out.2 (Option.some.inj e).symm)); have c4_7 := Bk.cell (k := 7) rfl; have f4_7 := Bk.frozen 7; have c4_8 := Bk.cell (k := 8) rfl; have f4_8 := Bk.frozen 8; have c4_9 := Bk.cell (k := 9) rfl; have f4_9 := Bk.frozen 9; have G4 := hidden ((((G3.out.trans hg).put (k := 7) HBK.out HI.out (.string (str p4.name))).put (k := 8) HBK.out HI.out (.int .i64 p4.port)).put (k := 9) HBK.out HI.out (.int .i64 p4.place)); have B4 : Hid (Blk 103 I (((w4.setCell ⟨I, 7, none⟩ (.string (str p4.name))).setCell ⟨I, 8, none⟩ (.int .i64 p4.port)).setCell ⟨I, 9, none⟩ (.int .i64 p4.place)) (itC_k 3 n2 [] (.slice none 0 0) noPlc_k p4 pl)) := (((Bk.set 7 (.string (str p4.name))).set 8 (.int .i64 p4.port)).set 9 (.int .i64 p4.place)); clear hg Bk)
    | (go_at_call 83; (with_reducible refine (H3.out _ G2.out.par).mono ?_); rintro e w3 ⟨rfl, hg⟩; have Bk := (B2.out.grown hg.grown (fun e => HBK.out.2 (Option.some.inj e).symm)); have G3 := hidden (G2.out.trans hg); have B3 : Hid (Blk 103 I w3 (itC_k 3 n2 [] (.slice none 0 0) noPlc_k noPlc_k pl)) := Bk; clear hg Bk)
    | (go_at_call 84; (with_reducible refine (H2.out _ G1.out.par).mono ?_); rintro e w2 ⟨rfl, hg⟩; have Bk := (B1.out.grown hg.grown (fun e => HBK.out.2 (Option.some.inj e).symm)); have c2_1 := Bk.cell (k := 1) rfl; have f2_1 := Bk.frozen 1; have G2 := hidden ((G1.out.trans hg).put (k := 1) HBK.out HI.out (.string (str n2))); have B2 : Hid (Blk 103 I (w2.setCell ⟨I, 1, none⟩ (.string (str n2))) (itC_k 3 n2 [] (.slice none 0 0) noPlc_k noPlc_k pl)) := (Bk.set 1 (.string (str n2))); clear hg Bk)
    | (go_at_call 83; (with_reducible refine (H1.out _ G0.out.par).mono ?_); rintro e w1 ⟨rfl, hg⟩; have Bk := (B0.out.grown hg.grown (fun e => HBK.out.2 (Option.some.inj e).symm)); have c1_0 := Bk.cell (k := 0) rfl; have f1_0 := Bk.frozen 0; have G1 := hidden ((G0.out.trans hg).put (k := 0) HBK.out HI.out (.int .u8 3)); have B1 : Hid (Blk 103 I (w1.setCell ⟨I, 0, none⟩ (.int .u8 3)) (itC_k 3 [] [] (.slice none 0 0) noPlc_k noPlc_k pl)) := (Bk.set 0 (.int .u8 3)); clear hg Bk))
  go_end0
  exact ⟨rfl, ⟨_, B4.out, World.ownsRow_nil _ _ _ _⟩, G4.out, hj4⟩
theorem inB_any (P : Nat) (v : Value) (ts : List Tok) (i : Nat) (W0 W : World) (I : Nat) (pl : Int) (hpl : (nthT ts i).place = pl) (hG : Goes P v ts i W0 W) (hP0 : ∀ {n : Nat}, W0.heap.size ≤ n → v.ownBlock ≠ some n ∧ P ≠ n) (hI : W0.heap.size ≤ I) (hB : Blk 103 I W (itC_k 0 [] [] (.slice none 0 0) noPlc_k noPlc_k pl)) (hE : Ended ts) (hi : i < ts.length) (hl : ts.length ≤ 2000000) (ht : (nthT ts i).text = [105, 110]) :
    Calls Tryz.prog 140 #[.pointer (some ⟨P, 0, none⟩), .pointer (some ⟨I, 0, none⟩)] W (BodyEnd P v ts W0 I (inR ts i)) := by
  rcases h1 : textR ts [105, 110] i with ⟨_ | ⟨⟩, j1⟩
  · unfold textR at h1; rw [if_pos ht] at h1; cases h1
  · rcases h2 : nameR ts j1 with ⟨_ | n2, j2⟩
    · exact inB_no2 P v ts i W0 W I pl hpl hG hP0 hI hB hE hi hl j1 j2 h1 h2
    · rcases h3 : textR ts [45, 62] j2 with ⟨_ | ⟨⟩, j3⟩
      · exact inB_no3 P v ts i W0 W I pl hpl hG hP0 hI hB hE hi hl j1 j2 n2 j3 h1 h2 h3
      · rcases h4 : placeR ts j3 with ⟨_ | p4, j4⟩
        · exact inB_no4 P v ts i W0 W I pl hpl hG hP0 hI hB hE hi hl j1 j2 n2 j3 j4 h1 h2 h3 h4
        · exact inB_all P v ts i W0 W I pl hpl hG hP0 hI hB hE hi hl j1 j2 n2 j3 j4 p4 h1 h2 h3 h4
set_option maxRecDepth 100000 in
set_option maxHeartbeats 2000000 in
theorem out_no1 (P : Nat) (v : Value) (ts : List Tok) (i : Nat) (W0 W : World) (I : Nat) (pl : Int) (_hpl : (nthT ts i).place = pl) (hG : Goes P v ts i W0 W) (hP0 : ∀ {n : Nat}, W0.heap.size ≤ n → v.ownBlock ≠ some n ∧ P ≠ n) (hI : W0.heap.size ≤ I) (hB : Blk 103 I W (itC_k 0 [] [] (.slice none 0 0) noPlc_k noPlc_k pl)) (_hE : Ended ts) (hi : i < ts.length) (hl : ts.length ≤ 2000000) (j1 : Nat) (h1 : textR ts [111, 117, 116] i = (none, j1)) :
    Calls Tryz.prog 141 #[.pointer (some ⟨P, 0, none⟩), .pointer (some ⟨I, 0, none⟩)] W (BodyEnd P v ts W0 I (outR ts i)) := by
  have HM : outR ts i = (none, j1) := by unfold outR; rw [h1, then_none]
  rw [HM]
  show Calls _ _ _ _ (fun e w' => e = .panicked tokPanic ∧ Goes P v ts j1 W0 w' ∧ j1 < ts.length)
  clear HM _hpl
  have HBK : Hid (v.ownBlock ≠ some I ∧ P ≠ I) := hP0 hI
  have HI := hidden hI
  have G0 := hidden hG
  have B0 := hidden hB
  clear hG hB hP0 hI
  have H1 : Hid (∀ w1, Par P v ts i w1 → Calls Tryz.prog 83 #[.pointer (some ⟨P, 0, none⟩), .string ⟨#[111, 117, 116]⟩] w1 fun e w' => e = .panicked tokPanic ∧ Goes P v ts j1 w1 w') := (expect_none h1 hi hl P v).2
  have hj1 : j1 < ts.length := (expect_none h1 hi hl P v).1
  clear h1
  go_enter Tryz.func141, Tryz.ntmps141
  go_wp2_with (first
    | (go_at_call 83; (with_reducible refine (H1.out _ G0.out.par).mono ?_); rintro e w1 ⟨rfl, hg⟩; have G1 := hidden (G0.out.trans hg); clear hg))
  exact ⟨rfl, rfl, G1.out, hj1⟩
set_option maxRecDepth 100000 in
set_option maxHeartbeats 2000000 in
theorem out_no2 (P : Nat) (v : Value) (ts : List Tok) (i : Nat) (W0 W : World) (I : Nat) (pl : Int) (_hpl : (nthT ts i).place = pl) (hG : Goes P v ts i W0 W) (hP0 : ∀ {n : Nat}, W0.heap.size ≤ n → v.ownBlock ≠ some n ∧ P ≠ n) (hI : W0.heap.size ≤ I) (hB : Blk 103 I W (itC_k 0 [] [] (.slice none 0 0) noPlc_k noPlc_k pl)) (hE : Ended ts) (hi : i < ts.length) (hl : ts.length ≤ 2000000) (j1 : Nat) (j2 : Nat) (h1 : textR ts [111, 117, 116] i = (some (), j1)) (h2 : placeR ts j1 = (none, j2)) :
    Calls Tryz.prog 141 #[.pointer (some ⟨P, 0, none⟩), .pointer (some ⟨I, 0, none⟩)] W (BodyEnd P v ts W0 I (outR ts i)) := by
  have HM : outR ts i = (none, j2) := by unfold outR; rw [h1, then_some, h2, then_none]
  rw [HM]
  show Calls _ _ _ _ (fun e w' => e = .panicked tokPanic ∧ Goes P v ts j2 W0 w' ∧ j2 < ts.length)
  clear HM _hpl
  have HBK : Hid (v.ownBlock ≠ some I ∧ P ≠ I) := hP0 hI
  have HI := hidden hI
  have G0 := hidden hG
  have B0 := hidden hB
  clear hG hB hP0 hI
  have H1 : Hid (∀ w1, Par P v ts i w1 → Calls Tryz.prog 83 #[.pointer (some ⟨P, 0, none⟩), .string ⟨#[111, 117, 116]⟩] w1 fun e w' => e = .returned (.tuple #[]) ∧ Goes P v ts j1 w1 w') := (expect_some h1 hE hi hl (by decide) P v).2
  have hj1 : j1 < ts.length := (expect_some h1 hE hi hl (by decide) P v).1
  have H2 : Hid (∀ w1, Par P v ts j1 w1 → Calls Tryz.prog 165 #[.pointer (some ⟨P, 0, none⟩)] w1 fun e w' => e = .panicked tokPanic ∧ Goes P v ts j2 w1 w') := (place_none h2 hE hj1 hl P v).2
  have hj2 : j2 < ts.length := (place_none h2 hE hj1 hl P v).1
  clear h1 h2
  go_enter Tryz.func141, Tryz.ntmps141
  go_wp2_with (first
    | (go_at_call 165; (with_reducible refine (H2.out _ G1.out.par).mono ?_); rintro e w2 ⟨rfl, hg⟩; have G2 := hidden (G1.out.trans hg); clear hg)
    | (go_at_call 83; (with_reducible refine (H1.out _ G0.out.par).mono ?_); rintro e w1 ⟨rfl, hg⟩; have Bk := (B0.out.grown hg.grown (fun e => HBK.out.2 (Option.some.inj e).symm)); have c1_0 := Bk.cell (k := 0) rfl; have f1_0 := Bk.frozen 0; have G1 := hidden ((G0.out.trans hg).put (k := 0) HBK.out HI.out (.int .u8 4)); have B1 : Hid (Blk 103 I (w1.setCell ⟨I, 0, none⟩ (.int .u8 4)) (itC_k 4 [] [] (.slice none 0 0) noPlc_k noPlc_k pl)) := (Bk.set 0 (.int .u8 4)); clear hg Bk))
  exact ⟨rfl, rfl, G2.out, hj2⟩
set_option maxRecDepth 100000 in
set_option maxHeartbeats 2000000 in
theorem out_no3 (P : Nat) (v : Value) (ts : List Tok) (i : Nat) (W0 W : World) (I : Nat) (pl : Int) (_hpl : (nthT ts i).place = pl) (hG : Goes P v ts i W0 W) (hP0 : ∀ {n : Nat}, W0.heap.size ≤ n → v.ownBlock ≠ some n ∧ P ≠ n) (hI : W0.heap.size ≤ I) (hB : Blk 103 I W (itC_k 0 [] [] (.slice none 0 0) noPlc_k noPlc_k pl)) (hE : Ended ts) (hi : i < ts.length) (hl : ts.length ≤ 2000000) (j1 : Nat) (j2 : Nat) (p2 : Plc_k) (j3 : Nat) (h1 : textR ts [111, 117, 116] i = (some (), j1)) (h2 : placeR ts j1 = (some p2, j2)) (h3 : textR ts [45, 62] j2 = (none, j3)) :
    Calls Tryz.prog 141 #[.pointer (some ⟨P, 0, none⟩), .pointer (some ⟨I, 0, none⟩)] W (BodyEnd P v ts W0 I (outR ts i)) := by
  have HM : outR ts i = (none, j3) := by unfold outR; rw [h1, then_some, h2, then_some, h3, then_none]
  rw [HM]
  show Calls _ _ _ _ (fun e w' => e = .panicked tokPanic ∧ Goes P v ts j3 W0 w' ∧ j3 < ts.length)
  clear HM _hpl
  have HBK : Hid (v.ownBlock ≠ some I ∧ P ≠ I) := hP0 hI
  have HI := hidden hI
  have G0 := hidden hG
  have B0 := hidden hB
  clear hG hB hP0 hI
  have H1 : Hid (∀ w1, Par P v ts i w1 → Calls Tryz.prog 83 #[.pointer (some ⟨P, 0, none⟩), .string ⟨#[111, 117, 116]⟩] w1 fun e w' => e = .returned (.tuple #[]) ∧ Goes P v ts j1 w1 w') := (expect_some h1 hE hi hl (by decide) P v).2
  have hj1 : j1 < ts.length := (expect_some h1 hE hi hl (by decide) P v).1
  have H2 : Hid (∀ w1, Par P v ts j1 w1 → Calls Tryz.prog 165 #[.pointer (some ⟨P, 0, none⟩)] w1 fun e w' => e = .returned (.agg #[.string (str p2.name), .int .i64 p2.port, .int .i64 p2.place]) ∧ Goes P v ts j2 w1 w') := (place_some h2 hE hj1 hl P v).2
  have hj2 : j2 < ts.length := (place_some h2 hE hj1 hl P v).1
  have H3 : Hid (∀ w1, Par P v ts j2 w1 → Calls Tryz.prog 83 #[.pointer (some ⟨P, 0, none⟩), .string ⟨#[45, 62]⟩] w1 fun e w' => e = .panicked tokPanic ∧ Goes P v ts j3 w1 w') := (expect_none h3 hj2 hl P v).2
  have hj3 : j3 < ts.length := (expect_none h3 hj2 hl P v).1
  clear h1 h2 h3
  go_enter Tryz.func141, Tryz.ntmps141
  go_wp2_with (first
    | (go_at_call 83; (with_reducible refine (H3.out _ G2.out.par).mono ?_); rintro e w3 ⟨rfl, hg⟩; have G3 := hidden (G2.out.trans hg); clear hg)
    | (go_at_call 165; (with_reducible refine (H2.out _ G1.out.par).mono ?_); rintro e w2 ⟨rfl, hg⟩; have Bk := (B1.out.grown hg.grown (fun e => HBK.out.2 (Option.some.inj e).symm)); have c2_4 := Bk.cell (k := 4) rfl; have f2_4 := Bk.frozen 4; have c2_5 := Bk.cell (k := 5) rfl; have f2_5 := Bk.frozen 5; have c2_6 := Bk.cell (k := 6) rfl; have f2_6 := Bk.frozen 6; have G2 := hidden ((((G1.out.trans hg).put (k := 4) HBK.out HI.out (.string (str p2.name))).put (k := 5) HBK.out HI.out (.int .i64 p2.port)).put (k := 6) HBK.out HI.out (.int .i64 p2.place)); have B2 : Hid (Blk 103 I (((w2.setCell ⟨I, 4, none⟩ (.string (str p2.name))).setCell ⟨I, 5, none⟩ (.int .i64 p2.port)).setCell ⟨I, 6, none⟩ (.int .i64 p2.place)) (itC_k 4 [] [] (.slice none 0 0) p2 noPlc_k pl)) := (((Bk.set 4 (.string (str p2.name))).set 5 (.int .i64 p2.port)).set 6 (.int .i64 p2.place)); clear hg Bk)
    | (go_at_call 83; (with_reducible refine (H1.out _ G0.out.par).mono ?_); rintro e w1 ⟨rfl, hg⟩; have Bk := (B0.out.grown hg.grown (fun e => HBK.out.2 (Option.some.inj e).symm)); have c1_0 := Bk.cell (k := 0) rfl; have f1_0 := Bk.frozen 0; have G1 := hidden ((G0.out.trans hg).put (k := 0) HBK.out HI.out (.int .u8 4)); have B1 : Hid (Blk 103 I (w1.setCell ⟨I, 0, none⟩ (.int .u8 4)) (itC_k 4 [] [] (.slice none 0 0) noPlc_k noPlc_k pl)) := (Bk.set 0 (.int .u8 4)); clear hg Bk))
  exact ⟨rfl, rfl, G3.out, hj3⟩
set_option maxRecDepth 100000 in
set_option maxHeartbeats 2000000 in
theorem out_no4 (P : Nat) (v : Value) (ts : List Tok) (i : Nat) (W0 W : World) (I : Nat) (pl : Int) (_hpl : (nthT ts i).place = pl) (hG : Goes P v ts i W0 W) (hP0 : ∀ {n : Nat}, W0.heap.size ≤ n → v.ownBlock ≠ some n ∧ P ≠ n) (hI : W0.heap.size ≤ I) (hB : Blk 103 I W (itC_k 0 [] [] (.slice none 0 0) noPlc_k noPlc_k pl)) (hE : Ended ts) (hi : i < ts.length) (hl : ts.length ≤ 2000000) (j1 : Nat) (j2 : Nat) (p2 : Plc_k) (j3 : Nat) (j4 : Nat) (h1 : textR ts [111, 117, 116] i = (some (), j1)) (h2 : placeR ts j1 = (some p2, j2)) (h3 : textR ts [45, 62] j2 = (some (), j3)) (h4 : nameR ts j3 = (none, j4)) :
    Calls Tryz.prog 141 #[.pointer (some ⟨P, 0, none⟩), .pointer (some ⟨I, 0, none⟩)] W (BodyEnd P v ts W0 I (outR ts i)) := by
  have HM : outR ts i = (none, j4) := by unfold outR; rw [h1, then_some, h2, then_some, h3, then_some, h4, then_none]
  rw [HM]
  show Calls _ _ _ _ (fun e w' => e = .panicked tokPanic ∧ Goes P v ts j4 W0 w' ∧ j4 < ts.length)
  clear HM _hpl
  have HBK : Hid (v.ownBlock ≠ some I ∧ P ≠ I) := hP0 hI
  have HI := hidden hI
  have G0 := hidden hG
  have B0 := hidden hB
  clear hG hB hP0 hI
  have H1 : Hid (∀ w1, Par P v ts i w1 → Calls Tryz.prog 83 #[.pointer (some ⟨P, 0, none⟩), .string ⟨#[111, 117, 116]⟩] w1 fun e w' => e = .returned (.tuple #[]) ∧ Goes P v ts j1 w1 w') := (expect_some h1 hE hi hl (by decide) P v).2
  have hj1 : j1 < ts.length := (expect_some h1 hE hi hl (by decide) P v).1
  have H2 : Hid (∀ w1, Par P v ts j1 w1 → Calls Tryz.prog 165 #[.pointer (some ⟨P, 0, none⟩)] w1 fun e w' => e = .returned (.agg #[.string (str p2.name), .int .i64 p2.port, .int .i64 p2.place]) ∧ Goes P v ts j2 w1 w') := (place_some h2 hE hj1 hl P v).2
  have hj2 : j2 < ts.length := (place_some h2 hE hj1 hl P v).1
  have H3 : Hid (∀ w1, Par P v ts j2 w1 → Calls Tryz.prog 83 #[.pointer (some ⟨P, 0, none⟩), .string ⟨#[45, 62]⟩] w1 fun e w' => e = .returned (.tuple #[]) ∧ Goes P v ts j3 w1 w') := (expect_some h3 hE hj2 hl (by decide) P v).2
  have hj3 : j3 < ts.length := (expect_some h3 hE hj2 hl (by decide) P v).1
  have H4 : Hid (∀ w1, Par P v ts j3 w1 → Calls Tryz.prog 84 #[.pointer (some ⟨P, 0, none⟩)] w1 fun e w' => e = .panicked tokPanic ∧ Goes P v ts j4 w1 w') := (name_none h4 hj3 hl P v).2
  have hj4 : j4 < ts.length := (name_none h4 hj3 hl P v).1
  clear h1 h2 h3 h4
  go_enter Tryz.func141, Tryz.ntmps141
  go_wp2_with (first
    | (go_at_call 84; (with_reducible refine (H4.out _ G3.out.par).mono ?_); rintro e w4 ⟨rfl, hg⟩; have G4 := hidden (G3.out.trans hg); clear hg)
    | (go_at_call 83; (with_reducible refine (H3.out _ G2.out.par).mono ?_); rintro e w3 ⟨rfl, hg⟩; have Bk := (B2.out.grown hg.grown (fun e => HBK.out.2 (Option.some.inj e).symm)); have G3 := hidden (G2.out.trans hg); have B3 : Hid (Blk 103 I w3 (itC_k 4 [] [] (.slice none 0 0) p2 noPlc_k pl)) := Bk; clear hg Bk)
    | (go_at_call 165; (with_reducible refine (H2.out _ G1.out.par).mono ?_); rintro e w2 ⟨rfl, hg⟩; have Bk := (B1.out.grown hg.grown (fun e => HBK.out.2 (Option.some.inj e).symm)); have c2_4 := Bk.cell (k := 4) rfl; have f2_4 := Bk.frozen 4; have c2_5 := Bk.cell (k := 5) rfl; have f2_5 := Bk.frozen 5; have c2_6 := Bk.cell (k := 6) rfl; have f2_6 := Bk.frozen 6; have G2 := hidden ((((G1.out.trans hg).put (k := 4) HBK.out HI.out (.string (str p2.name))).put (k := 5) HBK.out HI.out (.int .i64 p2.port)).put (k := 6) HBK.out HI.out (.int .i64 p2.place)); have B2 : Hid (Blk 103 I (((w2.setCell ⟨I, 4, none⟩ (.string (str p2.name))).setCell ⟨I, 5, none⟩ (.int .i64 p2.port)).setCell ⟨I, 6, none⟩ (.int .i64 p2.place)) (itC_k 4 [] [] (.slice none 0 0) p2 noPlc_k pl)) := (((Bk.set 4 (.string (str p2.name))).set 5 (.int .i64 p2.port)).set 6 (.int .i64 p2.place)); clear hg Bk)
    | (go_at_call 83; (with_reducible refine (H1.out _ G0.out.par).mono ?_); rintro e w1 ⟨rfl, hg⟩; have Bk := (B0.out.grown hg.grown (fun e => HBK.out.2 (Option.some.inj e).symm)); have c1_0 := Bk.cell (k := 0) rfl; have f1_0 := Bk.frozen 0; have G1 := hidden ((G0.out.trans hg).put (k := 0) HBK.out HI.out (.int .u8 4)); have B1 : Hid (Blk 103 I (w1.setCell ⟨I, 0, none⟩ (.int .u8 4)) (itC_k 4 [] [] (.slice none 0 0) noPlc_k noPlc_k pl)) := (Bk.set 0 (.int .u8 4)); clear hg Bk))
  exact ⟨rfl, rfl, G4.out, hj4⟩
set_option maxRecDepth 100000 in
set_option maxHeartbeats 2000000 in
theorem out_all (P : Nat) (v : Value) (ts : List Tok) (i : Nat) (W0 W : World) (I : Nat) (pl : Int) (hpl : (nthT ts i).place = pl) (hG : Goes P v ts i W0 W) (hP0 : ∀ {n : Nat}, W0.heap.size ≤ n → v.ownBlock ≠ some n ∧ P ≠ n) (hI : W0.heap.size ≤ I) (hB : Blk 103 I W (itC_k 0 [] [] (.slice none 0 0) noPlc_k noPlc_k pl)) (hE : Ended ts) (hi : i < ts.length) (hl : ts.length ≤ 2000000) (j1 : Nat) (j2 : Nat) (p2 : Plc_k) (j3 : Nat) (j4 : Nat) (n4 : List UInt8) (h1 : textR ts [111, 117, 116] i = (some (), j1)) (h2 : placeR ts j1 = (some p2, j2)) (h3 : textR ts [45, 62] j2 = (some (), j3)) (h4 : nameR ts j3 = (some n4, j4)) :
    Calls Tryz.prog 141 #[.pointer (some ⟨P, 0, none⟩), .pointer (some ⟨I, 0, none⟩)] W (BodyEnd P v ts W0 I (outR ts i)) := by
  have HM : outR ts i = (some ⟨4, n4, [], [], p2, noPlc_k, pl⟩, j4) := by unfold outR; rw [h1, then_some, h2, then_some, h3, then_some, h4, then_some, hpl]
  rw [HM]
  show Calls _ _ _ _ (fun e w' => e = .returned (.tuple #[]) ∧ (∃ ns, Blk 103 I w' (itC_k 4 n4 [] ns p2 noPlc_k pl) ∧ Ints_k W0.heap.size w' ns []) ∧ Goes P v ts j4 W0 w' ∧ j4 < ts.length)
  clear HM hpl
  have HBK : Hid (v.ownBlock ≠ some I ∧ P ≠ I) := hP0 hI
  have HI := hidden hI
  have G0 := hidden hG
  have B0 := hidden hB
  clear hG hB hP0 hI
  have H1 : Hid (∀ w1, Par P v ts i w1 → Calls Tryz.prog 83 #[.pointer (some ⟨P, 0, none⟩), .string ⟨#[111, 117, 116]⟩] w1 fun e w' => e = .returned (.tuple #[]) ∧ Goes P v ts j1 w1 w') := (expect_some h1 hE hi hl (by decide) P v).2
  have hj1 : j1 < ts.length := (expect_some h1 hE hi hl (by decide) P v).1
  have H2 : Hid (∀ w1, Par P v ts j1 w1 → Calls Tryz.prog 165 #[.pointer (some ⟨P, 0, none⟩)] w1 fun e w' => e = .returned (.agg #[.string (str p2.name), .int .i64 p2.port, .int .i64 p2.place]) ∧ Goes P v ts j2 w1 w') := (place_some h2 hE hj1 hl P v).2
  have hj2 : j2 < ts.length := (place_some h2 hE hj1 hl P v).1
  have H3 : Hid (∀ w1, Par P v ts j2 w1 → Calls Tryz.prog 83 #[.pointer (some ⟨P, 0, none⟩), .string ⟨#[45, 62]⟩] w1 fun e w' => e = .returned (.tuple #[]) ∧ Goes P v ts j3 w1 w') := (expect_some h3 hE hj2 hl (by decide) P v).2
  have hj3 : j3 < ts.length := (expect_some h3 hE hj2 hl (by decide) P v).1
  have H4 : Hid (∀ w1, Par P v ts j3 w1 → Calls Tryz.prog 84 #[.pointer (some ⟨P, 0, none⟩)] w1 fun e w' => e = .returned (.string (str n4)) ∧ Goes P v ts j4 w1 w') := (name_some h4 hE hj3 hl P v).2
  have hj4 : j4 < ts.length := (name_some h4 hE hj3 hl P v).1
  clear h1 h2 h3 h4
  go_enter Tryz.func141, Tryz.ntmps141
  go_wp2_with (first
    | (go_at_call 84; (with_reducible refine (H4.out _ G3.out.par).mono ?_); rintro e w4 ⟨rfl, hg⟩; have Bk := (B3.out.grown hg.grown (fun e => HBK.out.2 (Option.some.inj e).symm)); have c4_1 := Bk.cell (k := 1) rfl; have f4_1 := Bk.frozen 1; have G4 := hidden ((G3.out.trans hg).put (k := 1) HBK.out HI.out (.string (str n4))); have B4 : Hid (Blk 103 I (w4.setCell ⟨I, 1, none⟩ (.string (str n4))) (itC_k 4 n4 [] (.slice none 0 0) p2 noPlc_k pl)) := (Bk.set 1 (.string (str n4))); clear hg Bk)
    | (go_at_call 83; (with_reducible refine (H3.out _ G2.out.par).mono ?_); rintro e w3 ⟨rfl, hg⟩; have Bk := (B2.out.grown hg.grown (fun e => HBK.out.2 (Option.some.inj e).symm)); have G3 := hidden (G2.out.trans hg); have B3 : Hid (Blk 103 I w3 (itC_k 4 [] [] (.slice none 0 0) p2 noPlc_k pl)) := Bk; clear hg Bk)
    | (go_at_call 165; (with_reducible refine (H2.out _ G1.out.par).mono ?_); rintro e w2 ⟨rfl, hg⟩; have Bk := (B1.out.grown hg.grown (fun e => HBK.out.2 (Option.some.inj e).symm)); have c2_4 := Bk.cell (k := 4) rfl; have f2_4 := Bk.frozen 4; have c2_5 := Bk.cell (k := 5) rfl; have f2_5 := Bk.frozen 5; have c2_6 := Bk.cell (k := 6) rfl; have f2_6 := Bk.frozen 6; have G2 := hidden ((((G1.out.trans hg).put (k := 4) HBK.out HI.out (.string (str p2.name))).put (k := 5) HBK.out HI.out (.int .i64 p2.port)).put (k := 6) HBK.out HI.out (.int .i64 p2.place)); have B2 : Hid (Blk 103 I (((w2.setCell ⟨I, 4, none⟩ (.string (str p2.name))).setCell ⟨I, 5, none⟩ (.int .i64 p2.port)).setCell ⟨I, 6, none⟩ (.int .i64 p2.place)) (itC_k 4 [] [] (.slice none 0 0) p2 noPlc_k pl)) := (((Bk.set 4 (.string (str p2.name))).set 5 (.int .i64 p2.port)).set 6 (.int .i64 p2.place)); clear hg Bk)
    | (go_at_call 83; (with_reducible refine (H1.out _ G0.out.par).mono ?_); rintro e w1 ⟨rfl, hg⟩; have Bk := (B0.out.grown hg.grown (fun e => HBK.out.2 (Option.some.inj e).symm)); have c1_0 := Bk.cell (k := 0) rfl; have f1_0 := Bk.frozen 0; have G1 := hidden ((G0.out.trans hg).put (k := 0) HBK.out HI.out (.int .u8 4)); have B1 : Hid (Blk 103 I (w1.setCell ⟨I, 0, none⟩ (.int .u8 4)) (itC_k 4 [] [] (.slice none 0 0) noPlc_k noPlc_k pl)) := (Bk.set 0 (.int .u8 4)); clear hg Bk))
  go_end0
  exact ⟨rfl, ⟨_, B4.out, World.ownsRow_nil _ _ _ _⟩, G4.out, hj4⟩
theorem out_any (P : Nat) (v : Value) (ts : List Tok) (i : Nat) (W0 W : World) (I : Nat) (pl : Int) (hpl : (nthT ts i).place = pl) (hG : Goes P v ts i W0 W) (hP0 : ∀ {n : Nat}, W0.heap.size ≤ n → v.ownBlock ≠ some n ∧ P ≠ n) (hI : W0.heap.size ≤ I) (hB : Blk 103 I W (itC_k 0 [] [] (.slice none 0 0) noPlc_k noPlc_k pl)) (hE : Ended ts) (hi : i < ts.length) (hl : ts.length ≤ 2000000) :
    Calls Tryz.prog 141 #[.pointer (some ⟨P, 0, none⟩), .pointer (some ⟨I, 0, none⟩)] W (BodyEnd P v ts W0 I (outR ts i)) := by
  rcases h1 : textR ts [111, 117, 116] i with ⟨_ | ⟨⟩, j1⟩
  · exact out_no1 P v ts i W0 W I pl hpl hG hP0 hI hB hE hi hl j1 h1
  · rcases h2 : placeR ts j1 with ⟨_ | p2, j2⟩
    · exact out_no2 P v ts i W0 W I pl hpl hG hP0 hI hB hE hi hl j1 j2 h1 h2
    · rcases h3 : textR ts [45, 62] j2 with ⟨_ | ⟨⟩, j3⟩
      · exact out_no3 P v ts i W0 W I pl hpl hG hP0 hI hB hE hi hl j1 j2 p2 j3 h1 h2 h3
      · rcases h4 : nameR ts j3 with ⟨_ | n4, j4⟩
        · exact out_no4 P v ts i W0 W I pl hpl hG hP0 hI hB hE hi hl j1 j2 p2 j3 j4 h1 h2 h3 h4
        · exact out_all P v ts i W0 W I pl hpl hG hP0 hI hB hE hi hl j1 j2 p2 j3 j4 n4 h1 h2 h3 h4
theorem grown_none {w w' : World} (h : w.grownBy w' none) : Below w.heap.size w w' := ⟨h.os, h.tape, h.output, h.size, fun k hk => h.block k hk (fun e => by cases e)⟩
/-- A number put behind none. -/
theorem ints_more (base : Nat) (w : World) (b : Nat) (x : Int) (hc : w.cell? ⟨b, 0, none⟩ = some (.int .i64 x)) (hb : base ≤ w.heap.size) :
    ∃ r' w', (Builtin.append_ #[60, 60] 60 #[.slice none 0 0, .slice (some ⟨b, 0, none⟩) 1 1]).run Tryz.prog w = .ok r' w' ∧ Ints_k base w' r' [x] ∧ Below w.heap.size w w' := by
  obtain ⟨i0, hi, hz0, hz1, hz2⟩ := info_parts Tryz.info3'
  obtain ⟨r', w', hr, ho, hg, -⟩ := run_append_own (P := Tryz.prog) (w := w) base 60 60 3 i0 (.int .i64 0) 1 8 Tryz.underlying60 hi hz0 hz1 hz2 rfl (by decide) (.slice none 0 0) 0 [] (World.ownsRow_nil _ _ _ _) ⟨b, 0, none⟩ 1 1 [.int .i64 x] rfl (fun j u hu => by
    match j, hu with
    | 0, hu => simp at hu; subst hu; simpa [Addr.add] using hc) (int_one _) (by decide) (by decide) hb
  exact ⟨r', w', hr, ho, grown_none hg⟩
/-- Numbers put behind numbers. -/
theorem ints_append (base base2 : Nat) (w : World) (r q : Value) (ns ms : List Int) (h : Ints_k base w r ns) (h2 : Ints_k base2 w q ms) (hb : base ≤ w.heap.size) (hl : ns.length + ms.length ≤ 4000000) :
    ∃ r' w', (Builtin.append_ #[60, 60] 60 #[r, q]).run Tryz.prog w = .ok r' w' ∧ Ints_k base w' r' (ns ++ ms) ∧ w.grownBy w' r.ownBlock := by
  obtain ⟨i0, hi, hz0, hz1, hz2⟩ := info_parts Tryz.info3'
  rcases h2.2 with ⟨rfl, h0⟩ | ⟨g, cap, cur, rfl, -⟩
  · have e : ms = [] := List.eq_nil_of_length_eq_zero h0
    subst e
    refine ⟨r, w, run_append_owned_none (P := Tryz.prog) (w := w) base 60 60 3 i0 1 Tryz.underlying60 hi r _ _ h, by rw [List.append_nil]; exact h, rfl, rfl, rfl, Nat.le_refl _, fun _ _ _ => rfl⟩
  · obtain ⟨r', w', hr, ho, hg, -⟩ := run_append_own (P := Tryz.prog) (w := w) base 60 60 3 i0 (.int .i64 0) 1 8 Tryz.underlying60 hi hz0 hz1 hz2 rfl (by decide) r _ _ h ⟨g, 0, none⟩ ms.length cap (ms.map (Value.int .i64)) (by simp) (fun j u hu => World.ownsRow.cells h2 (g := g) rfl j u hu) (by
      intro u hu
      obtain ⟨y, -, rfl⟩ := List.mem_map.1 hu
      rfl) (by unfold maxLen; omega) (by omega) hb
    refine ⟨r', w', hr, ?_, hg⟩
    unfold Ints_k
    rw [List.length_append, List.map_append]
    exact ho
theorem own_lt_k {base : Nat} {w : World} {e : TypeId} {size n : Nat} {v : Value} {xs : List Value} (h : w.ownsRow base e size v n xs) : ∀ k, v.ownBlock = some k → k < w.heap.size := fun k hk => by
  rcases h.2 with ⟨rfl, -⟩ | ⟨g, c, cur, rfl, hg, hh, -⟩
  · cases hk
  · cases hk
    exact (Array.getElem?_eq_some_iff.1 hh).1
theorem Ints_k.kept {base w w' r ns} {row : Option Nat} (h : Ints_k base w r ns) (hg : w.grownBy w' row) (hr : ∀ k, row = some k → k < base) : Ints_k base w' r ns := by
  refine World.ownsRow.kept h hg ?_
  by_cases e : r.ownBlock = none
  · exact Or.inl e
  · refine Or.inr (fun e2 => ?_)
    cases hk : r.ownBlock with
    | none => exact e hk
    | some k =>
      have h1 := hr k (by rw [← e2, hk])
      exact owns_ne_k h h1 hk
set_option maxRecDepth 100000 in
set_option maxHeartbeats 2000000 in
theorem edge_no2 (P : Nat) (v : Value) (ts : List Tok) (i : Nat) (W0 W : World) (I : Nat) (pl : Int) (_hpl : (nthT ts i).place = pl) (hG : Goes P v ts i W0 W) (hP0 : ∀ {n : Nat}, W0.heap.size ≤ n → v.ownBlock ≠ some n ∧ P ≠ n) (hI : W0.heap.size ≤ I) (hB : Blk 103 I W (itC_k 0 [] [] (.slice none 0 0) noPlc_k noPlc_k pl)) (hE : Ended ts) (hi : i < ts.length) (hl : ts.length ≤ 2000000) (j1 : Nat) (j2 : Nat) (h1 : textR ts [101, 100, 103, 101] i = (some (), j1)) (h2 : placeR ts j1 = (none, j2)) :
    Calls Tryz.prog 139 #[.pointer (some ⟨P, 0, none⟩), .pointer (some ⟨I, 0, none⟩)] W (BodyEnd P v ts W0 I (edgeR ts i)) := by
  have HM : edgeR ts i = (none, j2) := by unfold edgeR; rw [h1, then_some, h2, then_none]
  rw [HM]
  show Calls _ _ _ _ (fun e w' => e = .panicked tokPanic ∧ Goes P v ts j2 W0 w' ∧ j2 < ts.length)
  clear HM _hpl
  have HBK : Hid (v.ownBlock ≠ some I ∧ P ≠ I) := hP0 hI
  have HI := hidden hI
  have G0 := hidden hG
  have B0 := hidden hB
  clear hG hB hP0 hI
  have H1 : Hid (∀ w1, Par P v ts i w1 → Calls Tryz.prog 83 #[.pointer (some ⟨P, 0, none⟩), .string ⟨#[101, 100, 103, 101]⟩] w1 fun e w' => e = .returned (.tuple #[]) ∧ Goes P v ts j1 w1 w') := (expect_some h1 hE hi hl (by decide) P v).2
  have hj1 : j1 < ts.length := (expect_some h1 hE hi hl (by decide) P v).1
  have H2 : Hid (∀ w1, Par P v ts j1 w1 → Calls Tryz.prog 165 #[.pointer (some ⟨P, 0, none⟩)] w1 fun e w' => e = .panicked tokPanic ∧ Goes P v ts j2 w1 w') := (place_none h2 hE hj1 hl P v).2
  have hj2 : j2 < ts.length := (place_none h2 hE hj1 hl P v).1
  clear h1 h2
  go_enter Tryz.func139, Tryz.ntmps139
  go_wp2_with (first
    | (go_at_call 165; (with_reducible refine (H2.out _ G1.out.par).mono ?_); rintro e w2 ⟨rfl, hg⟩; have G2 := hidden (G1.out.trans hg); clear hg)
    | (go_at_call 83; (with_reducible refine (H1.out _ G0.out.par).mono ?_); rintro e w1 ⟨rfl, hg⟩; have Bk := (B0.out.grown hg.grown (fun e => HBK.out.2 (Option.some.inj e).symm)); have c1_0 := Bk.cell (k := 0) rfl; have f1_0 := Bk.frozen 0; have G1 := hidden ((G0.out.trans hg).put (k := 0) HBK.out HI.out (.int .u8 2)); have B1 : Hid (Blk 103 I (w1.setCell ⟨I, 0, none⟩ (.int .u8 2)) (itC_k 2 [] [] (.slice none 0 0) noPlc_k noPlc_k pl)) := (Bk.set 0 (.int .u8 2)); clear hg Bk))
  exact ⟨rfl, rfl, G2.out, hj2⟩
set_option maxRecDepth 100000 in
set_option maxHeartbeats 2000000 in
theorem edge_no3 (P : Nat) (v : Value) (ts : List Tok) (i : Nat) (W0 W : World) (I : Nat) (pl : Int) (_hpl : (nthT ts i).place = pl) (hG : Goes P v ts i W0 W) (hP0 : ∀ {n : Nat}, W0.heap.size ≤ n → v.ownBlock ≠ some n ∧ P ≠ n) (hI : W0.heap.size ≤ I) (hB : Blk 103 I W (itC_k 0 [] [] (.slice none 0 0) noPlc_k noPlc_k pl)) (hE : Ended ts) (hi : i < ts.length) (hl : ts.length ≤ 2000000) (j1 : Nat) (j2 : Nat) (p2 : Plc_k) (j3 : Nat) (h1 : textR ts [101, 100, 103, 101] i = (some (), j1)) (h2 : placeR ts j1 = (some p2, j2)) (h3 : textR ts [45, 62] j2 = (none, j3)) :
    Calls Tryz.prog 139 #[.pointer (some ⟨P, 0, none⟩), .pointer (some ⟨I, 0, none⟩)] W (BodyEnd P v ts W0 I (edgeR ts i)) := by
  have HM : edgeR ts i = (none, j3) := by unfold edgeR; rw [h1, then_some, h2, then_some, h3, then_none]
  rw [HM]
  show Calls _ _ _ _ (fun e w' => e = .panicked tokPanic ∧ Goes P v ts j3 W0 w' ∧ j3 < ts.length)
  clear HM _hpl
  have HBK : Hid (v.ownBlock ≠ some I ∧ P ≠ I) := hP0 hI
  have HI := hidden hI
  have G0 := hidden hG
  have B0 := hidden hB
  clear hG hB hP0 hI
  have H1 : Hid (∀ w1, Par P v ts i w1 → Calls Tryz.prog 83 #[.pointer (some ⟨P, 0, none⟩), .string ⟨#[101, 100, 103, 101]⟩] w1 fun e w' => e = .returned (.tuple #[]) ∧ Goes P v ts j1 w1 w') := (expect_some h1 hE hi hl (by decide) P v).2
  have hj1 : j1 < ts.length := (expect_some h1 hE hi hl (by decide) P v).1
  have H2 : Hid (∀ w1, Par P v ts j1 w1 → Calls Tryz.prog 165 #[.pointer (some ⟨P, 0, none⟩)] w1 fun e w' => e = .returned (.agg #[.string (str p2.name), .int .i64 p2.port, .int .i64 p2.place]) ∧ Goes P v ts j2 w1 w') := (place_some h2 hE hj1 hl P v).2
  have hj2 : j2 < ts.length := (place_some h2 hE hj1 hl P v).1
  have H3 : Hid (∀ w1, Par P v ts j2 w1 → Calls Tryz.prog 83 #[.pointer (some ⟨P, 0, none⟩), .string ⟨#[45, 62]⟩] w1 fun e w' => e = .panicked tokPanic ∧ Goes P v ts j3 w1 w') := (expect_none h3 hj2 hl P v).2
  have hj3 : j3 < ts.length := (expect_none h3 hj2 hl P v).1
  clear h1 h2 h3
  go_enter Tryz.func139, Tryz.ntmps139
  go_wp2_with (first
    | (go_at_call 83; (with_reducible refine (H3.out _ G2.out.par).mono ?_); rintro e w3 ⟨rfl, hg⟩; have G3 := hidden (G2.out.trans hg); clear hg)
    | (go_at_call 165; (with_reducible refine (H2.out _ G1.out.par).mono ?_); rintro e w2 ⟨rfl, hg⟩; have Bk := (B1.out.grown hg.grown (fun e => HBK.out.2 (Option.some.inj e).symm)); have c2_4 := Bk.cell (k := 4) rfl; have f2_4 := Bk.frozen 4; have c2_5 := Bk.cell (k := 5) rfl; have f2_5 := Bk.frozen 5; have c2_6 := Bk.cell (k := 6) rfl; have f2_6 := Bk.frozen 6; have G2 := hidden ((((G1.out.trans hg).put (k := 4) HBK.out HI.out (.string (str p2.name))).put (k := 5) HBK.out HI.out (.int .i64 p2.port)).put (k := 6) HBK.out HI.out (.int .i64 p2.place)); have B2 : Hid (Blk 103 I (((w2.setCell ⟨I, 4, none⟩ (.string (str p2.name))).setCell ⟨I, 5, none⟩ (.int .i64 p2.port)).setCell ⟨I, 6, none⟩ (.int .i64 p2.place)) (itC_k 2 [] [] (.slice none 0 0) p2 noPlc_k pl)) := (((Bk.set 4 (.string (str p2.name))).set 5 (.int .i64 p2.port)).set 6 (.int .i64 p2.place)); clear hg Bk)
    | (go_at_call 83; (with_reducible refine (H1.out _ G0.out.par).mono ?_); rintro e w1 ⟨rfl, hg⟩; have Bk := (B0.out.grown hg.grown (fun e => HBK.out.2 (Option.some.inj e).symm)); have c1_0 := Bk.cell (k := 0) rfl; have f1_0 := Bk.frozen 0; have G1 := hidden ((G0.out.trans hg).put (k := 0) HBK.out HI.out (.int .u8 2)); have B1 : Hid (Blk 103 I (w1.setCell ⟨I, 0, none⟩ (.int .u8 2)) (itC_k 2 [] [] (.slice none 0 0) noPlc_k noPlc_k pl)) := (Bk.set 0 (.int .u8 2)); clear hg Bk))
  exact ⟨rfl, rfl, G3.out, hj3⟩
set_option maxRecDepth 100000 in
set_option maxHeartbeats 2000000 in
theorem edge_no4 (P : Nat) (v : Value) (ts : List Tok) (i : Nat) (W0 W : World) (I : Nat) (pl : Int) (_hpl : (nthT ts i).place = pl) (hG : Goes P v ts i W0 W) (hP0 : ∀ {n : Nat}, W0.heap.size ≤ n → v.ownBlock ≠ some n ∧ P ≠ n) (hI : W0.heap.size ≤ I) (hB : Blk 103 I W (itC_k 0 [] [] (.slice none 0 0) noPlc_k noPlc_k pl)) (hE : Ended ts) (hi : i < ts.length) (hl : ts.length ≤ 2000000) (j1 : Nat) (j2 : Nat) (p2 : Plc_k) (j3 : Nat) (j4 : Nat) (h1 : textR ts [101, 100, 103, 101] i = (some (), j1)) (h2 : placeR ts j1 = (some p2, j2)) (h3 : textR ts [45, 62] j2 = (some (), j3)) (h4 : placeR ts j3 = (none, j4)) :
    Calls Tryz.prog 139 #[.pointer (some ⟨P, 0, none⟩), .pointer (some ⟨I, 0, none⟩)] W (BodyEnd P v ts W0 I (edgeR ts i)) := by
  have HM : edgeR ts i = (none, j4) := by unfold edgeR; rw [h1, then_some, h2, then_some, h3, then_some, h4, then_none]
  rw [HM]
  show Calls _ _ _ _ (fun e w' => e = .panicked tokPanic ∧ Goes P v ts j4 W0 w' ∧ j4 < ts.length)
  clear HM _hpl
  have HBK : Hid (v.ownBlock ≠ some I ∧ P ≠ I) := hP0 hI
  have HI := hidden hI
  have G0 := hidden hG
  have B0 := hidden hB
  clear hG hB hP0 hI
  have H1 : Hid (∀ w1, Par P v ts i w1 → Calls Tryz.prog 83 #[.pointer (some ⟨P, 0, none⟩), .string ⟨#[101, 100, 103, 101]⟩] w1 fun e w' => e = .returned (.tuple #[]) ∧ Goes P v ts j1 w1 w') := (expect_some h1 hE hi hl (by decide) P v).2
  have hj1 : j1 < ts.length := (expect_some h1 hE hi hl (by decide) P v).1
  have H2 : Hid (∀ w1, Par P v ts j1 w1 → Calls Tryz.prog 165 #[.pointer (some ⟨P, 0, none⟩)] w1 fun e w' => e = .returned (.agg #[.string (str p2.name), .int .i64 p2.port, .int .i64 p2.place]) ∧ Goes P v ts j2 w1 w') := (place_some h2 hE hj1 hl P v).2
  have hj2 : j2 < ts.length := (place_some h2 hE hj1 hl P v).1
  have H3 : Hid (∀ w1, Par P v ts j2 w1 → Calls Tryz.prog 83 #[.pointer (some ⟨P, 0, none⟩), .string ⟨#[45, 62]⟩] w1 fun e w' => e = .returned (.tuple #[]) ∧ Goes P v ts j3 w1 w') := (expect_some h3 hE hj2 hl (by decide) P v).2
  have hj3 : j3 < ts.length := (expect_some h3 hE hj2 hl (by decide) P v).1
  have H4 : Hid (∀ w1, Par P v ts j3 w1 → Calls Tryz.prog 165 #[.pointer (some ⟨P, 0, none⟩)] w1 fun e w' => e = .panicked tokPanic ∧ Goes P v ts j4 w1 w') := (place_none h4 hE hj3 hl P v).2
  have hj4 : j4 < ts.length := (place_none h4 hE hj3 hl P v).1
  clear h1 h2 h3 h4
  go_enter Tryz.func139, Tryz.ntmps139
  go_wp2_with (first
    | (go_at_call 165; (with_reducible refine (H4.out _ G3.out.par).mono ?_); rintro e w4 ⟨rfl, hg⟩; have G4 := hidden (G3.out.trans hg); clear hg)
    | (go_at_call 83; (with_reducible refine (H3.out _ G2.out.par).mono ?_); rintro e w3 ⟨rfl, hg⟩; have Bk := (B2.out.grown hg.grown (fun e => HBK.out.2 (Option.some.inj e).symm)); have G3 := hidden (G2.out.trans hg); have B3 : Hid (Blk 103 I w3 (itC_k 2 [] [] (.slice none 0 0) p2 noPlc_k pl)) := Bk; clear hg Bk)
    | (go_at_call 165; (with_reducible refine (H2.out _ G1.out.par).mono ?_); rintro e w2 ⟨rfl, hg⟩; have Bk := (B1.out.grown hg.grown (fun e => HBK.out.2 (Option.some.inj e).symm)); have c2_4 := Bk.cell (k := 4) rfl; have f2_4 := Bk.frozen 4; have c2_5 := Bk.cell (k := 5) rfl; have f2_5 := Bk.frozen 5; have c2_6 := Bk.cell (k := 6) rfl; have f2_6 := Bk.frozen 6; have G2 := hidden ((((G1.out.trans hg).put (k := 4) HBK.out HI.out (.string (str p2.name))).put (k := 5) HBK.out HI.out (.int .i64 p2.port)).put (k := 6) HBK.out HI.out (.int .i64 p2.place)); have B2 : Hid (Blk 103 I (((w2.setCell ⟨I, 4, none⟩ (.string (str p2.name))).setCell ⟨I, 5, none⟩ (.int .i64 p2.port)).setCell ⟨I, 6, none⟩ (.int .i64 p2.place)) (itC_k 2 [] [] (.slice none 0 0) p2 noPlc_k pl)) := (((Bk.set 4 (.string (str p2.name))).set 5 (.int .i64 p2.port)).set 6 (.int .i64 p2.place)); clear hg Bk)
    | (go_at_call 83; (with_reducible refine (H1.out _ G0.out.par).mono ?_); rintro e w1 ⟨rfl, hg⟩; have Bk := (B0.out.grown hg.grown (fun e => HBK.out.2 (Option.some.inj e).symm)); have c1_0 := Bk.cell (k := 0) rfl; have f1_0 := Bk.frozen 0; have G1 := hidden ((G0.out.trans hg).put (k := 0) HBK.out HI.out (.int .u8 2)); have B1 : Hid (Blk 103 I (w1.setCell ⟨I, 0, none⟩ (.int .u8 2)) (itC_k 2 [] [] (.slice none 0 0) noPlc_k noPlc_k pl)) := (Bk.set 0 (.int .u8 2)); clear hg Bk))
  exact ⟨rfl, rfl, G4.out, hj4⟩
set_option maxRecDepth 100000 in
set_option maxHeartbeats 2000000 in
theorem edge_plain (P : Nat) (v : Value) (ts : List Tok) (i : Nat) (W0 W : World) (I : Nat) (pl : Int) (hpl : (nthT ts i).place = pl) (hG : Goes P v ts i W0 W) (hP0 : ∀ {n : Nat}, W0.heap.size ≤ n → v.ownBlock ≠ some n ∧ P ≠ n) (hI : W0.heap.size ≤ I) (hB : Blk 103 I W (itC_k 0 [] [] (.slice none 0 0) noPlc_k noPlc_k pl)) (hE : Ended ts) (hi : i < ts.length) (hl : ts.length ≤ 2000000) (j1 : Nat) (j2 : Nat) (p2 : Plc_k) (j3 : Nat) (j4 : Nat) (p4 : Plc_k) (h1 : textR ts [101, 100, 103, 101] i = (some (), j1)) (h2 : placeR ts j1 = (some p2, j2)) (h3 : textR ts [45, 62] j2 = (some (), j3)) (h4 : placeR ts j3 = (some p4, j4)) (hw : (nthT ts j4).text ≠ [119, 105, 116, 104]) :
    Calls Tryz.prog 139 #[.pointer (some ⟨P, 0, none⟩), .pointer (some ⟨I, 0, none⟩)] W (BodyEnd P v ts W0 I (edgeR ts i)) := by
  have HM : edgeR ts i = (some ⟨2, [], [], [], p2, p4, pl⟩, j4) := by unfold edgeR withR; rw [h1, then_some, h2, then_some, h3, then_some, h4, then_some, if_neg hw, then_some, hpl]
  rw [HM]
  show Calls _ _ _ _ (fun e w' => e = .returned (.tuple #[]) ∧ (∃ ns, Blk 103 I w' (itC_k 2 [] [] ns p2 p4 pl) ∧ Ints_k W0.heap.size w' ns []) ∧ Goes P v ts j4 W0 w' ∧ j4 < ts.length)
  clear HM hpl
  have HBK : Hid (v.ownBlock ≠ some I ∧ P ≠ I) := hP0 hI
  have HI := hidden hI
  have G0 := hidden hG
  have B0 := hidden hB
  clear hG hB hP0 hI
  have H1 : Hid (∀ w1, Par P v ts i w1 → Calls Tryz.prog 83 #[.pointer (some ⟨P, 0, none⟩), .string ⟨#[101, 100, 103, 101]⟩] w1 fun e w' => e = .returned (.tuple #[]) ∧ Goes P v ts j1 w1 w') := (expect_some h1 hE hi hl (by decide) P v).2
  have hj1 : j1 < ts.length := (expect_some h1 hE hi hl (by decide) P v).1
  have H2 : Hid (∀ w1, Par P v ts j1 w1 → Calls Tryz.prog 165 #[.pointer (some ⟨P, 0, none⟩)] w1 fun e w' => e = .returned (.agg #[.string (str p2.name), .int .i64 p2.port, .int .i64 p2.place]) ∧ Goes P v ts j2 w1 w') := (place_some h2 hE hj1 hl P v).2
  have hj2 : j2 < ts.length := (place_some h2 hE hj1 hl P v).1
  have H3 : Hid (∀ w1, Par P v ts j2 w1 → Calls Tryz.prog 83 #[.pointer (some ⟨P, 0, none⟩), .string ⟨#[45, 62]⟩] w1 fun e w' => e = .returned (.tuple #[]) ∧ Goes P v ts j3 w1 w') := (expect_some h3 hE hj2 hl (by decide) P v).2
  have hj3 : j3 < ts.length := (expect_some h3 hE hj2 hl (by decide) P v).1
  have H4 : Hid (∀ w1, Par P v ts j3 w1 → Calls Tryz.prog 165 #[.pointer (some ⟨P, 0, none⟩)] w1 fun e w' => e = .returned (.agg #[.string (str p4.name), .int .i64 p4.port, .int .i64 p4.place]) ∧ Goes P v ts j4 w1 w') := (place_some h4 hE hj3 hl P v).2
  have hj4 : j4 < ts.length := (place_some h4 hE hj3 hl P v).1
  have HSY : Hid (∀ w1, Par P v ts j4 w1 → Calls Tryz.prog 85 #[.pointer (some ⟨P, 0, none⟩), .string ⟨#[119, 105, 116, 104]⟩] w1 fun e w' => e = .returned (.bool false) ∧ Below w1.heap.size w1 w') := fun w1 q => by
    have := says_at P v ts j4 w1 q hj4 hl [119, 105, 116, 104]
    rw [decide_eq_false hw] at this
    exact this
  clear hw
  clear h1 h2 h3 h4
  go_enter Tryz.func139, Tryz.ntmps139
  go_wp2_with (first
    | (go_at_call 85; (with_reducible refine (HSY.out _ G4.out.par).mono ?_); rintro e w5 ⟨rfl, hb⟩; have G5 := hidden (G4.out.later hb); have B5 := hidden (B4.out.below hb); clear hb)
    | (go_at_call 165; (with_reducible refine (H4.out _ G3.out.par).mono ?_); rintro e w4 ⟨rfl, hg⟩; have Bk := (B3.out.grown hg.grown (fun e => HBK.out.2 (Option.some.inj e).symm)); have c4_7 := Bk.cell (k := 7) rfl; have f4_7 := Bk.frozen 7; have c4_8 := Bk.cell (k := 8) rfl; have f4_8 := Bk.frozen 8; have c4_9 := Bk.cell (k := 9) rfl; have f4_9 := Bk.frozen 9; have G4 := hidden ((((G3.out.trans hg).put (k := 7) HBK.out HI.out (.string (str p4.name))).put (k := 8) HBK.out HI.out (.int .i64 p4.port)).put (k := 9) HBK.out HI.out (.int .i64 p4.place)); have B4 : Hid (Blk 103 I (((w4.setCell ⟨I, 7, none⟩ (.string (str p4.name))).setCell ⟨I, 8, none⟩ (.int .i64 p4.port)).setCell ⟨I, 9, none⟩ (.int .i64 p4.place)) (itC_k 2 [] [] (.slice none 0 0) p2 p4 pl)) := (((Bk.set 7 (.string (str p4.name))).set 8 (.int .i64 p4.port)).set 9 (.int .i64 p4.place)); clear hg Bk)
    | (go_at_call 83; (with_reducible refine (H3.out _ G2.out.par).mono ?_); rintro e w3 ⟨rfl, hg⟩; have Bk := (B2.out.grown hg.grown (fun e => HBK.out.2 (Option.some.inj e).symm)); have G3 := hidden (G2.out.trans hg); have B3 : Hid (Blk 103 I w3 (itC_k 2 [] [] (.slice none 0 0) p2 noPlc_k pl)) := Bk; clear hg Bk)
    | (go_at_call 165; (with_reducible refine (H2.out _ G1.out.par).mono ?_); rintro e w2 ⟨rfl, hg⟩; have Bk := (B1.out.grown hg.grown (fun e => HBK.out.2 (Option.some.inj e).symm)); have c2_4 := Bk.cell (k := 4) rfl; have f2_4 := Bk.frozen 4; have c2_5 := Bk.cell (k := 5) rfl; have f2_5 := Bk.frozen 5; have c2_6 := Bk.cell (k := 6) rfl; have f2_6 := Bk.frozen 6; have G2 := hidden ((((G1.out.trans hg).put (k := 4) HBK.out HI.out (.string (str p2.name))).put (k := 5) HBK.out HI.out (.int .i64 p2.port)).put (k := 6) HBK.out HI.out (.int .i64 p2.place)); have B2 : Hid (Blk 103 I (((w2.setCell ⟨I, 4, none⟩ (.string (str p2.name))).setCell ⟨I, 5, none⟩ (.int .i64 p2.port)).setCell ⟨I, 6, none⟩ (.int .i64 p2.place)) (itC_k 2 [] [] (.slice none 0 0) p2 noPlc_k pl)) := (((Bk.set 4 (.string (str p2.name))).set 5 (.int .i64 p2.port)).set 6 (.int .i64 p2.place)); clear hg Bk)
    | (go_at_call 83; (with_reducible refine (H1.out _ G0.out.par).mono ?_); rintro e w1 ⟨rfl, hg⟩; have Bk := (B0.out.grown hg.grown (fun e => HBK.out.2 (Option.some.inj e).symm)); have c1_0 := Bk.cell (k := 0) rfl; have f1_0 := Bk.frozen 0; have G1 := hidden ((G0.out.trans hg).put (k := 0) HBK.out HI.out (.int .u8 2)); have B1 : Hid (Blk 103 I (w1.setCell ⟨I, 0, none⟩ (.int .u8 2)) (itC_k 2 [] [] (.slice none 0 0) noPlc_k noPlc_k pl)) := (Bk.set 0 (.int .u8 2)); clear hg Bk))
  go_end0
  exact ⟨rfl, ⟨_, B5.out, World.ownsRow_nil _ _ _ _⟩, G5.out, hj4⟩
set_option maxRecDepth 100000 in
set_option maxHeartbeats 2000000 in
theorem edge_noNum (P : Nat) (v : Value) (ts : List Tok) (i : Nat) (W0 W : World) (I : Nat) (pl : Int) (_hpl : (nthT ts i).place = pl) (hG : Goes P v ts i W0 W) (hP0 : ∀ {n : Nat}, W0.heap.size ≤ n → v.ownBlock ≠ some n ∧ P ≠ n) (hI : W0.heap.size ≤ I) (hB : Blk 103 I W (itC_k 0 [] [] (.slice none 0 0) noPlc_k noPlc_k pl)) (hE : Ended ts) (hi : i < ts.length) (hl : ts.length ≤ 2000000) (j1 : Nat) (j2 : Nat) (p2 : Plc_k) (j3 : Nat) (j4 : Nat) (p4 : Plc_k) (j6 : Nat) (h1 : textR ts [101, 100, 103, 101] i = (some (), j1)) (h2 : placeR ts j1 = (some p2, j2)) (h3 : textR ts [45, 62] j2 = (some (), j3)) (h4 : placeR ts j3 = (some p4, j4)) (hw : (nthT ts j4).text = [119, 105, 116, 104]) (hx : numR ts (j4 + 1) = (none, j6)) :
    Calls Tryz.prog 139 #[.pointer (some ⟨P, 0, none⟩), .pointer (some ⟨I, 0, none⟩)] W (BodyEnd P v ts W0 I (edgeR ts i)) := by
  have HM : edgeR ts i = (none, j6) := by unfold edgeR withR; rw [h1, then_some, h2, then_some, h3, then_some, h4, then_some, if_pos hw, hx, then_none, then_none]
  rw [HM]
  show Calls _ _ _ _ (fun e w' => e = .panicked tokPanic ∧ Goes P v ts j6 W0 w' ∧ j6 < ts.length)
  clear HM _hpl
  have HBK : Hid (v.ownBlock ≠ some I ∧ P ≠ I) := hP0 hI
  have HI := hidden hI
  have G0 := hidden hG
  have B0 := hidden hB
  clear hG hB hP0 hI
  have H1 : Hid (∀ w1, Par P v ts i w1 → Calls Tryz.prog 83 #[.pointer (some ⟨P, 0, none⟩), .string ⟨#[101, 100, 103, 101]⟩] w1 fun e w' => e = .returned (.tuple #[]) ∧ Goes P v ts j1 w1 w') := (expect_some h1 hE hi hl (by decide) P v).2
  have hj1 : j1 < ts.length := (expect_some h1 hE hi hl (by decide) P v).1
  have H2 : Hid (∀ w1, Par P v ts j1 w1 → Calls Tryz.prog 165 #[.pointer (some ⟨P, 0, none⟩)] w1 fun e w' => e = .returned (.agg #[.string (str p2.name), .int .i64 p2.port, .int .i64 p2.place]) ∧ Goes P v ts j2 w1 w') := (place_some h2 hE hj1 hl P v).2
  have hj2 : j2 < ts.length := (place_some h2 hE hj1 hl P v).1
  have H3 : Hid (∀ w1, Par P v ts j2 w1 → Calls Tryz.prog 83 #[.pointer (some ⟨P, 0, none⟩), .string ⟨#[45, 62]⟩] w1 fun e w' => e = .returned (.tuple #[]) ∧ Goes P v ts j3 w1 w') := (expect_some h3 hE hj2 hl (by decide) P v).2
  have hj3 : j3 < ts.length := (expect_some h3 hE hj2 hl (by decide) P v).1
  have H4 : Hid (∀ w1, Par P v ts j3 w1 → Calls Tryz.prog 165 #[.pointer (some ⟨P, 0, none⟩)] w1 fun e w' => e = .returned (.agg #[.string (str p4.name), .int .i64 p4.port, .int .i64 p4.place]) ∧ Goes P v ts j4 w1 w') := (place_some h4 hE hj3 hl P v).2
  have hj4 : j4 < ts.length := (place_some h4 hE hj3 hl P v).1
  have HSY : Hid (∀ w1, Par P v ts j4 w1 → Calls Tryz.prog 85 #[.pointer (some ⟨P, 0, none⟩), .string ⟨#[119, 105, 116, 104]⟩] w1 fun e w' => e = .returned (.bool true) ∧ Below w1.heap.size w1 w') := fun w1 q => by
    have := says_at P v ts j4 w1 q hj4 hl [119, 105, 116, 104]
    rw [decide_eq_true hw] at this
    exact this
  have hj5 : j4 + 1 < ts.length := hE.text_lt hj4 (by decide) hw
  have HPA : Hid (∀ w1, Par P v ts j4 w1 → Calls Tryz.prog 142 #[.pointer (some ⟨P, 0, none⟩)] w1 fun e w' => e = .returned (tokV (nthT ts j4)) ∧ Goes P v ts (j4 + 1) w1 w') := fun w1 q => pass_at P v ts j4 w1 q hj4 hl
  have hj6 := (number_none hx hj5 hl P v).1
  have H6 := (number_none hx hj5 hl P v).2
  have x : Int := 0
  clear hw hx
  clear h1 h2 h3 h4
  go_enter Tryz.func139, Tryz.ntmps139
  go_wp2_with (first
    | (go_at_call 142; (with_reducible refine (HPA.out _ G5.out.par).mono ?_); rintro e w6 ⟨rfl, hg⟩; have G6 := hidden (G5.out.trans hg); have B6 := hidden (B5.out.grown hg.grown (fun e => HBK.out.2 (Option.some.inj e).symm)); clear hg)
    | (go_at_call 85; (with_reducible refine (HSY.out _ G4.out.par).mono ?_); rintro e w5 ⟨rfl, hb⟩; have G5 := hidden (G4.out.later hb); have B5 := hidden (B4.out.below hb); clear hb)
    | (go_at_call 165; (with_reducible refine (H4.out _ G3.out.par).mono ?_); rintro e w4 ⟨rfl, hg⟩; have Bk := (B3.out.grown hg.grown (fun e => HBK.out.2 (Option.some.inj e).symm)); have c4_7 := Bk.cell (k := 7) rfl; have f4_7 := Bk.frozen 7; have c4_8 := Bk.cell (k := 8) rfl; have f4_8 := Bk.frozen 8; have c4_9 := Bk.cell (k := 9) rfl; have f4_9 := Bk.frozen 9; have G4 := hidden ((((G3.out.trans hg).put (k := 7) HBK.out HI.out (.string (str p4.name))).put (k := 8) HBK.out HI.out (.int .i64 p4.port)).put (k := 9) HBK.out HI.out (.int .i64 p4.place)); have B4 : Hid (Blk 103 I (((w4.setCell ⟨I, 7, none⟩ (.string (str p4.name))).setCell ⟨I, 8, none⟩ (.int .i64 p4.port)).setCell ⟨I, 9, none⟩ (.int .i64 p4.place)) (itC_k 2 [] [] (.slice none 0 0) p2 p4 pl)) := (((Bk.set 7 (.string (str p4.name))).set 8 (.int .i64 p4.port)).set 9 (.int .i64 p4.place)); clear hg Bk)
    | (go_at_call 83; (with_reducible refine (H3.out _ G2.out.par).mono ?_); rintro e w3 ⟨rfl, hg⟩; have Bk := (B2.out.grown hg.grown (fun e => HBK.out.2 (Option.some.inj e).symm)); have G3 := hidden (G2.out.trans hg); have B3 : Hid (Blk 103 I w3 (itC_k 2 [] [] (.slice none 0 0) p2 noPlc_k pl)) := Bk; clear hg Bk)
    | (go_at_call 165; (with_reducible refine (H2.out _ G1.out.par).mono ?_); rintro e w2 ⟨rfl, hg⟩; have Bk := (B1.out.grown hg.grown (fun e => HBK.out.2 (Option.some.inj e).symm)); have c2_4 := Bk.cell (k := 4) rfl; have f2_4 := Bk.frozen 4; have c2_5 := Bk.cell (k := 5) rfl; have f2_5 := Bk.frozen 5; have c2_6 := Bk.cell (k := 6) rfl; have f2_6 := Bk.frozen 6; have G2 := hidden ((((G1.out.trans hg).put (k := 4) HBK.out HI.out (.string (str p2.name))).put (k := 5) HBK.out HI.out (.int .i64 p2.port)).put (k := 6) HBK.out HI.out (.int .i64 p2.place)); have B2 : Hid (Blk 103 I (((w2.setCell ⟨I, 4, none⟩ (.string (str p2.name))).setCell ⟨I, 5, none⟩ (.int .i64 p2.port)).setCell ⟨I, 6, none⟩ (.int .i64 p2.place)) (itC_k 2 [] [] (.slice none 0 0) p2 noPlc_k pl)) := (((Bk.set 4 (.string (str p2.name))).set 5 (.int .i64 p2.port)).set 6 (.int .i64 p2.place)); clear hg Bk)
    | (go_at_call 83; (with_reducible refine (H1.out _ G0.out.par).mono ?_); rintro e w1 ⟨rfl, hg⟩; have Bk := (B0.out.grown hg.grown (fun e => HBK.out.2 (Option.some.inj e).symm)); have c1_0 := Bk.cell (k := 0) rfl; have f1_0 := Bk.frozen 0; have G1 := hidden ((G0.out.trans hg).put (k := 0) HBK.out HI.out (.int .u8 2)); have B1 : Hid (Blk 103 I (w1.setCell ⟨I, 0, none⟩ (.int .u8 2)) (itC_k 2 [] [] (.slice none 0 0) noPlc_k noPlc_k pl)) := (Bk.set 0 (.int .u8 2)); clear hg Bk))
  refine wp_region_pan [6, 11] (fun d i u z => match i with
      | 0 => z = .pointer (some ⟨I, 0, none⟩)
      | 1 => z = .pointer (some ⟨I, 0, none⟩)
      | 2 => z = .pointer (some ⟨I, 0, none⟩)
      | 3 => z = .pointer (some ⟨I, 3, none⟩)
      | 4 => z = .slice none 0 0
      | 5 => z = .pointer (some ⟨P, 0, none⟩)
      | 6 => False
      | 7 => False
      | 8 => False
      | 9 => False
      | 10 => False
      | 11 => True
      | _ => True) (fun d u => (d 6 = true → Goes P v ts j6 W0 u) ∧ (d 6 = false → Goes P v ts (j4 + 1) W0 u) ∧ (d 11 = true → ∃ ns, Blk 103 I u (itC_k 2 [] [] ns p2 p4 pl) ∧ Ints_k w6.heap.size u ns [x]) ∧ (d 11 = false → Blk 103 I u (itC_k 2 [] [] (.slice none 0 0) p2 p4 pl)) ∧ w6.heap.size ≤ u.heap.size) (Z := fun c u => c = tokPanic ∧ Goes P v ts j6 W0 u) ?_ (by kernel_rfl) (by kernel_rfl) (by kernel_rfl) ?_ ?_ ?_ ?_ ?_ ?_ (by kernel_rfl)
  · rintro c a' w' hd ⟨rfl, hz⟩
    exact ⟨hd, rfl, hz, hj6⟩
  · intro d i w v w' h hb
    match i, h with
    | 0, h => exact h
    | 1, h => exact h
    | 2, h => exact h
    | 3, h => exact h
    | 4, h => exact h
    | 5, h => exact h
    | 6, h => exact h
    | 7, h => exact h
    | 8, h => exact h
    | 9, h => exact h
    | 10, h => exact h
    | 11, h => exact h
    | _ + 12, _ => trivial
  · intro d u u' h hb
    exact ⟨fun h1 => (h.1 h1).later hb, fun h1 => (h.2.1 h1).later hb, fun h1 => by { obtain ⟨ns, q1, q2⟩ := h.2.2.1 h1; exact ⟨ns, q1.below hb, q2.below hb⟩ }, fun h1 => (h.2.2.2.1 h1).below hb, Nat.le_trans h.2.2.2.2 hb.size⟩
  · exact ⟨fun h => absurd h (by decide), fun _ => G6.out, fun h => absurd h (by decide), fun _ => B6.out, Nat.le_refl _⟩
  · intro d i o ρ w' hm ho hf hg hC hcs hfs hfr hdep
    match i, hm, ho, hf, hg, hfr, hdep with
    | 0, _, ho, hf, hg, hfr, hdep =>
      simp only [gTA, gCZ, gSI] at ho
      subst ho
      refine ⟨fun _ => ?_, fun hw => absurd (show true = false from hw) (by decide)⟩
      have ts : ρ (.tmp 1) = .pointer (some ⟨I, 0, none⟩) := hfr 1 (by kernel_rfl)
      simp [go_sem, ts]
      exact ⟨Below.refl _ _, rfl⟩
    | 1, _, ho, hf, hg, hfr, hdep =>
      simp only [gTA, gCZ, gCS, gSI] at ho
      subst ho
      refine ⟨fun _ => ?_, fun hw => absurd (show true = false from hw) (by decide)⟩
      have ts : ρ (.tmp 1) = .pointer (some ⟨I, 0, none⟩) := hfr 1 (by kernel_rfl)
      simp [go_sem, ts]
      exact ⟨Below.refl _ _, rfl⟩
    | 2, _, ho, hf, hg, hfr, hdep =>
      simp only [gTA, gCZ, gCS, gSI] at ho
      subst ho
      refine ⟨fun _ => ?_, fun hw => absurd (show true = false from hw) (by decide)⟩
      have d0 : ρ (.tmp 30) = .pointer (some ⟨I, 0, none⟩) := hdep 1 30 (by kernel_rfl) (by kernel_rfl)
      simp [go_sem, d0]
      exact ⟨Below.refl _ _, rfl⟩
    | 3, _, ho, hf, hg, hfr, hdep =>
      simp only [gTA, gCZ, gCS, gSI] at ho
      subst ho
      refine ⟨fun _ => ?_, fun hw => absurd (show true = false from hw) (by decide)⟩
      have d0 : ρ (.tmp 31) = .pointer (some ⟨I, 0, none⟩) := hdep 2 31 (by kernel_rfl) (by kernel_rfl)
      simp [go_sem, d0]
      exact ⟨Below.refl _ _, rfl⟩
    | 4, _, ho, hf, hg, hfr, hdep =>
      simp only [gTA, gCZ, gCS, gSI] at ho
      subst ho
      refine ⟨fun _ => ?_, fun hw => absurd (show true = false from hw) (by decide)⟩
      have Bk := hC.2.2.2.1 (hf 11 (by decide) (by kernel_rfl))
      have c3 : w'.cell? ⟨I, 3, none⟩ = some (.slice none 0 0) := Bk.cell (k := 3) rfl
      have d0 : ρ (.tmp 32) = .pointer (some ⟨I, 3, none⟩) := hdep 3 32 (by kernel_rfl) (by kernel_rfl)
      simp [go_sem, d0, c3]
      exact ⟨Below.refl _ _, rfl⟩
    | 5, _, ho, hf, hg, hfr, hdep =>
      simp only [gTA, gCZ, gCS, gSI] at ho
      subst ho
      refine ⟨fun _ => ?_, fun hw => absurd (show true = false from hw) (by decide)⟩
      have ts : ρ (.tmp 0) = .pointer (some ⟨P, 0, none⟩) := hfr 0 (by kernel_rfl)
      simp [go_sem, ts]
      exact ⟨Below.refl _ _, rfl⟩
    | 6, hm, _, _, _, _, _ => exact absurd hm (by decide)
    | 7, _, ho, hf, hg, hfr, hdep =>
      simp only [gTA, gCZ, gCS, gSI] at ho
      subst ho
      refine ⟨fun _ => ?_, fun hw => absurd (show true = false from hw) (by decide)⟩
      exact (hdep 6 35 (by kernel_rfl) (by kernel_rfl)).elim
    | 8, _, ho, hf, hg, hfr, hdep =>
      simp only [gTA, gCZ, gCS, gSI] at ho
      subst ho
      refine ⟨fun _ => ?_, fun hw => absurd (show true = false from hw) (by decide)⟩
      exact (hdep 7 36 (by kernel_rfl) (by kernel_rfl)).elim
    | 9, _, ho, hf, hg, hfr, hdep =>
      simp only [gTA, gCZ, gCS, gSI] at ho
      subst ho
      refine ⟨fun _ => ?_, fun hw => absurd (show true = false from hw) (by decide)⟩
      exact (hdep 8 37 (by kernel_rfl) (by kernel_rfl)).elim
    | 10, _, ho, hf, hg, hfr, hdep =>
      simp only [gTA, gCZ, gCS, gSI] at ho
      subst ho
      refine ⟨fun _ => ?_, fun hw => absurd (show true = false from hw) (by decide)⟩
      exact (hdep 9 38 (by kernel_rfl) (by kernel_rfl)).elim
    | 11, hm, _, _, _, _, _ => exact absurd hm (by decide)
    | n + 12, _, ho, _, _, _, _ => simp at ho
  · intro d i o ρ w' hm ho h0 hf hg hC hcs hfs hfr hdep
    match i, hm, ho, h0, hf, hg, hfr, hdep with
    | 0, hm, _, _, _, _, _, _ => exact absurd hm (by decide)
    | 1, hm, _, _, _, _, _, _ => exact absurd hm (by decide)
    | 2, hm, _, _, _, _, _, _ => exact absurd hm (by decide)
    | 3, hm, _, _, _, _, _, _ => exact absurd hm (by decide)
    | 4, hm, _, _, _, _, _, _ => exact absurd hm (by decide)
    | 5, hm, _, _, _, _, _, _ => exact absurd hm (by decide)
    | 6, _, ho, h0, hf, hg, hfr, hdep =>
      simp only [gTA, gCZ, gCS, gSI] at ho
      subst ho
      refine ⟨rfl, ?_⟩
      have ts : ρ (.tmp 34) = .pointer (some ⟨P, 0, none⟩) := hdep 5 34 (by kernel_rfl) (by kernel_rfl)
      simp [go_sem, ts, hfs]
      refine ⟨rfl, (H6.out _ (hC.2.1 h0).par).mono ?_⟩
      rintro e u ⟨rfl, hg⟩
      exact Or.inr ⟨_, rfl, rfl, (hC.2.1 h0).trans hg⟩
    | 7, hm, _, _, _, _, _, _ => exact absurd hm (by decide)
    | 8, hm, _, _, _, _, _, _ => exact absurd hm (by decide)
    | 9, hm, _, _, _, _, _, _ => exact absurd hm (by decide)
    | 10, hm, _, _, _, _, _, _ => exact absurd hm (by decide)
    | 11, _, ho, h0, hf, hg, hfr, hdep =>
      simp only [gTA, gCZ, gCS, gSI] at ho
      subst ho
      exact (hdep 8 37 (by kernel_rfl) (by kernel_rfl) : False).elim
    | n + 12, _, ho, _, _, _, _, _ => simp at ho
  · intro V w9 hC9 hS
    exact (hS 6 (by decide) (by intro h; cases h)).elim
set_option maxRecDepth 100000 in
set_option maxHeartbeats 2000000 in
theorem edge_num (P : Nat) (v : Value) (ts : List Tok) (i : Nat) (W0 W : World) (I : Nat) (pl : Int) (hpl : (nthT ts i).place = pl) (hG : Goes P v ts i W0 W) (hP0 : ∀ {n : Nat}, W0.heap.size ≤ n → v.ownBlock ≠ some n ∧ P ≠ n) (hI : W0.heap.size ≤ I) (hB : Blk 103 I W (itC_k 0 [] [] (.slice none 0 0) noPlc_k noPlc_k pl)) (hE : Ended ts) (hi : i < ts.length) (hl : ts.length ≤ 2000000) (j1 : Nat) (j2 : Nat) (p2 : Plc_k) (j3 : Nat) (j4 : Nat) (p4 : Plc_k) (x : Int) (j6 : Nat) (h1 : textR ts [101, 100, 103, 101] i = (some (), j1)) (h2 : placeR ts j1 = (some p2, j2)) (h3 : textR ts [45, 62] j2 = (some (), j3)) (h4 : placeR ts j3 = (some p4, j4)) (hw : (nthT ts j4).text = [119, 105, 116, 104]) (hx : numR ts (j4 + 1) = (some x, j6)) (h0 : Par P v ts i W0) :
    Calls Tryz.prog 139 #[.pointer (some ⟨P, 0, none⟩), .pointer (some ⟨I, 0, none⟩)] W (BodyEnd P v ts W0 I (edgeR ts i)) := by
  have HM : edgeR ts i = (some ⟨2, [], [], x :: numsR ts j6, p2, p4, pl⟩, j6 + (numsR ts j6).length) := by unfold edgeR withR; rw [h1, then_some, h2, then_some, h3, then_some, h4, then_some, if_pos hw, hx, then_some, then_some, hpl]
  rw [HM]
  show Calls _ _ _ _ (fun e w' => e = .returned (.tuple #[]) ∧ (∃ ns, Blk 103 I w' (itC_k 2 [] [] ns p2 p4 pl) ∧ Ints_k W0.heap.size w' ns (x :: numsR ts j6)) ∧ Goes P v ts (j6 + (numsR ts j6).length) W0 w' ∧ j6 + (numsR ts j6).length < ts.length)
  have HP0 := hidden h0
  clear h0
  clear HM hpl
  have HBK : Hid (v.ownBlock ≠ some I ∧ P ≠ I) := hP0 hI
  have HI := hidden hI
  have G0 := hidden hG
  have B0 := hidden hB
  clear hG hB hP0 hI
  have H1 : Hid (∀ w1, Par P v ts i w1 → Calls Tryz.prog 83 #[.pointer (some ⟨P, 0, none⟩), .string ⟨#[101, 100, 103, 101]⟩] w1 fun e w' => e = .returned (.tuple #[]) ∧ Goes P v ts j1 w1 w') := (expect_some h1 hE hi hl (by decide) P v).2
  have hj1 : j1 < ts.length := (expect_some h1 hE hi hl (by decide) P v).1
  have H2 : Hid (∀ w1, Par P v ts j1 w1 → Calls Tryz.prog 165 #[.pointer (some ⟨P, 0, none⟩)] w1 fun e w' => e = .returned (.agg #[.string (str p2.name), .int .i64 p2.port, .int .i64 p2.place]) ∧ Goes P v ts j2 w1 w') := (place_some h2 hE hj1 hl P v).2
  have hj2 : j2 < ts.length := (place_some h2 hE hj1 hl P v).1
  have H3 : Hid (∀ w1, Par P v ts j2 w1 → Calls Tryz.prog 83 #[.pointer (some ⟨P, 0, none⟩), .string ⟨#[45, 62]⟩] w1 fun e w' => e = .returned (.tuple #[]) ∧ Goes P v ts j3 w1 w') := (expect_some h3 hE hj2 hl (by decide) P v).2
  have hj3 : j3 < ts.length := (expect_some h3 hE hj2 hl (by decide) P v).1
  have H4 : Hid (∀ w1, Par P v ts j3 w1 → Calls Tryz.prog 165 #[.pointer (some ⟨P, 0, none⟩)] w1 fun e w' => e = .returned (.agg #[.string (str p4.name), .int .i64 p4.port, .int .i64 p4.place]) ∧ Goes P v ts j4 w1 w') := (place_some h4 hE hj3 hl P v).2
  have hj4 : j4 < ts.length := (place_some h4 hE hj3 hl P v).1
  have HSY : Hid (∀ w1, Par P v ts j4 w1 → Calls Tryz.prog 85 #[.pointer (some ⟨P, 0, none⟩), .string ⟨#[119, 105, 116, 104]⟩] w1 fun e w' => e = .returned (.bool true) ∧ Below w1.heap.size w1 w') := fun w1 q => by
    have := says_at P v ts j4 w1 q hj4 hl [119, 105, 116, 104]
    rw [decide_eq_true hw] at this
    exact this
  have hj5 : j4 + 1 < ts.length := hE.text_lt hj4 (by decide) hw
  have HPA : Hid (∀ w1, Par P v ts j4 w1 → Calls Tryz.prog 142 #[.pointer (some ⟨P, 0, none⟩)] w1 fun e w' => e = .returned (tokV (nthT ts j4)) ∧ Goes P v ts (j4 + 1) w1 w') := fun w1 q => pass_at P v ts j4 w1 q hj4 hl
  have hj6 := (number_some hx hE hj5 hl P v).1
  have H6 := (number_some hx hE hj5 hl P v).2
  have HJL := hidden (nums_lt hE ts.length j6 (by omega) hj6)
  have HLN : Hid ((numsR ts j6).length ≤ 2000000) := by have := HJL.out; show _ ≤ _; omega
  have H8 : Hid (∀ w1, Par P v ts j6 w1 → Calls Tryz.prog 164 #[.pointer (some ⟨P, 0, none⟩)] w1 fun e w' => ∃ a c, e = .returned (.slice a (numsR ts j6).length c) ∧ Ints_k w1.heap.size w' (.slice a (numsR ts j6).length c) (numsR ts j6) ∧ Goes P v ts (j6 + (numsR ts j6).length) w1 w') := fun w1 q => (numbers_at P v ts j6 w1 q hE hj6 hl).mono fun _ _ ⟨r, he, hn, hr, _⟩ => by { obtain ⟨a, c, rfl⟩ := hn.shape; exact ⟨a, c, he, hn, hr⟩ }
  clear hw hx
  clear h1 h2 h3 h4
  go_enter Tryz.func139, Tryz.ntmps139
  go_wp2_with (first
    | (go_at_call 142; (with_reducible refine (HPA.out _ G5.out.par).mono ?_); rintro e w6 ⟨rfl, hg⟩; have G6 := hidden (G5.out.trans hg); have B6 := hidden (B5.out.grown hg.grown (fun e => HBK.out.2 (Option.some.inj e).symm)); clear hg)
    | (go_at_call 85; (with_reducible refine (HSY.out _ G4.out.par).mono ?_); rintro e w5 ⟨rfl, hb⟩; have G5 := hidden (G4.out.later hb); have B5 := hidden (B4.out.below hb); clear hb)
    | (go_at_call 165; (with_reducible refine (H4.out _ G3.out.par).mono ?_); rintro e w4 ⟨rfl, hg⟩; have Bk := (B3.out.grown hg.grown (fun e => HBK.out.2 (Option.some.inj e).symm)); have c4_7 := Bk.cell (k := 7) rfl; have f4_7 := Bk.frozen 7; have c4_8 := Bk.cell (k := 8) rfl; have f4_8 := Bk.frozen 8; have c4_9 := Bk.cell (k := 9) rfl; have f4_9 := Bk.frozen 9; have G4 := hidden ((((G3.out.trans hg).put (k := 7) HBK.out HI.out (.string (str p4.name))).put (k := 8) HBK.out HI.out (.int .i64 p4.port)).put (k := 9) HBK.out HI.out (.int .i64 p4.place)); have B4 : Hid (Blk 103 I (((w4.setCell ⟨I, 7, none⟩ (.string (str p4.name))).setCell ⟨I, 8, none⟩ (.int .i64 p4.port)).setCell ⟨I, 9, none⟩ (.int .i64 p4.place)) (itC_k 2 [] [] (.slice none 0 0) p2 p4 pl)) := (((Bk.set 7 (.string (str p4.name))).set 8 (.int .i64 p4.port)).set 9 (.int .i64 p4.place)); clear hg Bk)
    | (go_at_call 83; (with_reducible refine (H3.out _ G2.out.par).mono ?_); rintro e w3 ⟨rfl, hg⟩; have Bk := (B2.out.grown hg.grown (fun e => HBK.out.2 (Option.some.inj e).symm)); have G3 := hidden (G2.out.trans hg); have B3 : Hid (Blk 103 I w3 (itC_k 2 [] [] (.slice none 0 0) p2 noPlc_k pl)) := Bk; clear hg Bk)
    | (go_at_call 165; (with_reducible refine (H2.out _ G1.out.par).mono ?_); rintro e w2 ⟨rfl, hg⟩; have Bk := (B1.out.grown hg.grown (fun e => HBK.out.2 (Option.some.inj e).symm)); have c2_4 := Bk.cell (k := 4) rfl; have f2_4 := Bk.frozen 4; have c2_5 := Bk.cell (k := 5) rfl; have f2_5 := Bk.frozen 5; have c2_6 := Bk.cell (k := 6) rfl; have f2_6 := Bk.frozen 6; have G2 := hidden ((((G1.out.trans hg).put (k := 4) HBK.out HI.out (.string (str p2.name))).put (k := 5) HBK.out HI.out (.int .i64 p2.port)).put (k := 6) HBK.out HI.out (.int .i64 p2.place)); have B2 : Hid (Blk 103 I (((w2.setCell ⟨I, 4, none⟩ (.string (str p2.name))).setCell ⟨I, 5, none⟩ (.int .i64 p2.port)).setCell ⟨I, 6, none⟩ (.int .i64 p2.place)) (itC_k 2 [] [] (.slice none 0 0) p2 noPlc_k pl)) := (((Bk.set 4 (.string (str p2.name))).set 5 (.int .i64 p2.port)).set 6 (.int .i64 p2.place)); clear hg Bk)
    | (go_at_call 83; (with_reducible refine (H1.out _ G0.out.par).mono ?_); rintro e w1 ⟨rfl, hg⟩; have Bk := (B0.out.grown hg.grown (fun e => HBK.out.2 (Option.some.inj e).symm)); have c1_0 := Bk.cell (k := 0) rfl; have f1_0 := Bk.frozen 0; have G1 := hidden ((G0.out.trans hg).put (k := 0) HBK.out HI.out (.int .u8 2)); have B1 : Hid (Blk 103 I (w1.setCell ⟨I, 0, none⟩ (.int .u8 2)) (itC_k 2 [] [] (.slice none 0 0) noPlc_k noPlc_k pl)) := (Bk.set 0 (.int .u8 2)); clear hg Bk))
  have HPS : Hid (P < w6.heap.size) := G6.out.par.lt
  have HIS : Hid (I < w6.heap.size) := B6.out.lt
  refine wp_region_pan [6, 11] (fun d i u z => match i with
      | 0 => z = .pointer (some ⟨I, 0, none⟩)
      | 1 => z = .pointer (some ⟨I, 0, none⟩)
      | 2 => z = .pointer (some ⟨I, 0, none⟩)
      | 3 => z = .pointer (some ⟨I, 3, none⟩)
      | 4 => z = .slice none 0 0
      | 5 => z = .pointer (some ⟨P, 0, none⟩)
      | 6 => z = .int .i64 x
      | 7 => ∃ b, z = .slice (some ⟨b, 0, none⟩) 1 1 ∧ w6.heap.size ≤ b ∧ u.cell? ⟨b, 0, none⟩ = some (.int .i64 x) ∧ b < u.heap.size
      | 8 => ∃ a c, z = .slice a 1 c ∧ Ints_k w6.heap.size u (.slice a 1 c) [x]
      | 9 => z = .pointer (some ⟨I, 0, none⟩)
      | 10 => z = .pointer (some ⟨I, 3, none⟩)
      | 11 => True
      | _ => True) (fun d u => (d 6 = true → Goes P v ts j6 W0 u) ∧ (d 6 = false → Goes P v ts (j4 + 1) W0 u) ∧ (d 11 = true → ∃ ns, Blk 103 I u (itC_k 2 [] [] ns p2 p4 pl) ∧ Ints_k w6.heap.size u ns [x]) ∧ (d 11 = false → Blk 103 I u (itC_k 2 [] [] (.slice none 0 0) p2 p4 pl)) ∧ w6.heap.size ≤ u.heap.size) (Z := fun _ _ => False) ?_ (by kernel_rfl) (by kernel_rfl) (by kernel_rfl) ?_ ?_ ?_ ?_ ?_ ?_ (by kernel_rfl)
  · intro c a' w' _ h
    cases h
  · intro d i w v w' h hb
    match i, h with
    | 0, h => exact h
    | 1, h => exact h
    | 2, h => exact h
    | 3, h => exact h
    | 4, h => exact h
    | 5, h => exact h
    | 6, h => exact h
    | 7, h => obtain ⟨b, q1, q2, q3, q4⟩ := h; exact ⟨b, q1, q2, (hb.cell (p := ⟨b, 0, none⟩) q4).trans q3, Nat.lt_of_lt_of_le q4 hb.size⟩
    | 8, h => obtain ⟨a, c, q1, q2⟩ := h; exact ⟨a, c, q1, q2.below hb⟩
    | 9, h => exact h
    | 10, h => exact h
    | 11, h => exact h
    | _ + 12, _ => trivial
  · intro d u u' h hb
    exact ⟨fun h1 => (h.1 h1).later hb, fun h1 => (h.2.1 h1).later hb, fun h1 => by { obtain ⟨ns, q1, q2⟩ := h.2.2.1 h1; exact ⟨ns, q1.below hb, q2.below hb⟩ }, fun h1 => (h.2.2.2.1 h1).below hb, Nat.le_trans h.2.2.2.2 hb.size⟩
  · exact ⟨fun h => absurd h (by decide), fun _ => G6.out, fun h => absurd h (by decide), fun _ => B6.out, Nat.le_refl _⟩
  · intro d i o ρ w' hm ho hf hg hC hcs hfs hfr hdep
    match i, hm, ho, hf, hg, hfr, hdep with
    | 0, _, ho, hf, hg, hfr, hdep =>
      simp only [gTA, gCZ, gSI] at ho
      subst ho
      refine ⟨fun _ => ?_, fun hw => absurd (show true = false from hw) (by decide)⟩
      have ts : ρ (.tmp 1) = .pointer (some ⟨I, 0, none⟩) := hfr 1 (by kernel_rfl)
      simp [go_sem, ts]
      exact ⟨Below.refl _ _, rfl⟩
    | 1, _, ho, hf, hg, hfr, hdep =>
      simp only [gTA, gCZ, gCS, gSI] at ho
      subst ho
      refine ⟨fun _ => ?_, fun hw => absurd (show true = false from hw) (by decide)⟩
      have ts : ρ (.tmp 1) = .pointer (some ⟨I, 0, none⟩) := hfr 1 (by kernel_rfl)
      simp [go_sem, ts]
      exact ⟨Below.refl _ _, rfl⟩
    | 2, _, ho, hf, hg, hfr, hdep =>
      simp only [gTA, gCZ, gCS, gSI] at ho
      subst ho
      refine ⟨fun _ => ?_, fun hw => absurd (show true = false from hw) (by decide)⟩
      have d0 : ρ (.tmp 30) = .pointer (some ⟨I, 0, none⟩) := hdep 1 30 (by kernel_rfl) (by kernel_rfl)
      simp [go_sem, d0]
      exact ⟨Below.refl _ _, rfl⟩
    | 3, _, ho, hf, hg, hfr, hdep =>
      simp only [gTA, gCZ, gCS, gSI] at ho
      subst ho
      refine ⟨fun _ => ?_, fun hw => absurd (show true = false from hw) (by decide)⟩
      have d0 : ρ (.tmp 31) = .pointer (some ⟨I, 0, none⟩) := hdep 2 31 (by kernel_rfl) (by kernel_rfl)
      simp [go_sem, d0]
      exact ⟨Below.refl _ _, rfl⟩
    | 4, _, ho, hf, hg, hfr, hdep =>
      simp only [gTA, gCZ, gCS, gSI] at ho
      subst ho
      refine ⟨fun _ => ?_, fun hw => absurd (show true = false from hw) (by decide)⟩
      have Bk := hC.2.2.2.1 (hf 11 (by decide) (by kernel_rfl))
      have c3 : w'.cell? ⟨I, 3, none⟩ = some (.slice none 0 0) := Bk.cell (k := 3) rfl
      have d0 : ρ (.tmp 32) = .pointer (some ⟨I, 3, none⟩) := hdep 3 32 (by kernel_rfl) (by kernel_rfl)
      simp [go_sem, d0, c3]
      exact ⟨Below.refl _ _, rfl⟩
    | 5, _, ho, hf, hg, hfr, hdep =>
      simp only [gTA, gCZ, gCS, gSI] at ho
      subst ho
      refine ⟨fun _ => ?_, fun hw => absurd (show true = false from hw) (by decide)⟩
      have ts : ρ (.tmp 0) = .pointer (some ⟨P, 0, none⟩) := hfr 0 (by kernel_rfl)
      simp [go_sem, ts]
      exact ⟨Below.refl _ _, rfl⟩
    | 6, hm, _, _, _, _, _ => exact absurd hm (by decide)
    | 7, _, ho, hf, hg, hfr, hdep =>
      simp only [gTA, gCZ, gCS, gSI] at ho
      subst ho
      refine ⟨fun _ => ?_, fun hw => absurd (show true = false from hw) (by decide)⟩
      have ts : ρ (.tmp 35) = .int .i64 x := hdep 6 35 (by kernel_rfl) (by kernel_rfl)
      simp [go_sem, ts]
      exact ⟨(Below.refl _ _).alloc (Nat.le_refl _) _, _, rfl, hC.2.2.2.2, by simp, by simp⟩
    | 8, _, ho, hf, hg, hfr, hdep =>
      simp only [gTA, gCZ, gCS, gSI] at ho
      subst ho
      refine ⟨fun _ => ?_, fun hw => absurd (show true = false from hw) (by decide)⟩
      obtain ⟨b, e7, q2, q3, q4⟩ : ∃ b, ρ (.tmp 36) = .slice (some ⟨b, 0, none⟩) 1 1 ∧ w6.heap.size ≤ b ∧ w'.cell? ⟨b, 0, none⟩ = some (.int .i64 x) ∧ b < w'.heap.size := hdep 7 36 (by kernel_rfl) (by kernel_rfl)
      have ts : ρ (.tmp 33) = .slice none 0 0 := hdep 4 33 (by kernel_rfl) (by kernel_rfl)
      obtain ⟨r', w'', hr, ho, hg⟩ := ints_more w6.heap.size w' b x q3 hC.2.2.2.2
      unfold execOp
      simp only [resolve, invoke, builtin, Sem.run_bind, Sem.run_pure, Result.andThen_ok, List.map_toArray, List.map_cons, List.map_nil, ts, e7, hr]
      obtain ⟨a, c, rfl⟩ := ho.shape
      exact ⟨hg, a, c, rfl, ho⟩
    | 9, _, ho, hf, hg, hfr, hdep =>
      simp only [gTA, gCZ, gCS, gSI] at ho
      subst ho
      refine ⟨fun _ => ?_, fun hw => absurd (show true = false from hw) (by decide)⟩
      have d0 : ρ (.tmp 29) = .pointer (some ⟨I, 0, none⟩) := hdep 0 29 (by kernel_rfl) (by kernel_rfl)
      simp [go_sem, d0]
      exact ⟨Below.refl _ _, rfl⟩
    | 10, _, ho, hf, hg, hfr, hdep =>
      simp only [gTA, gCZ, gCS, gSI] at ho
      subst ho
      refine ⟨fun _ => ?_, fun hw => absurd (show true = false from hw) (by decide)⟩
      have d0 : ρ (.tmp 38) = .pointer (some ⟨I, 0, none⟩) := hdep 9 38 (by kernel_rfl) (by kernel_rfl)
      simp [go_sem, d0]
      exact ⟨Below.refl _ _, rfl⟩
    | 11, hm, _, _, _, _, _ => exact absurd hm (by decide)
    | n + 12, _, ho, _, _, _, _ => simp at ho
  · intro d i o ρ w' hm ho h0 hf hg hC hcs hfs hfr hdep
    match i, hm, ho, h0, hf, hg, hfr, hdep with
    | 0, hm, _, _, _, _, _, _ => exact absurd hm (by decide)
    | 1, hm, _, _, _, _, _, _ => exact absurd hm (by decide)
    | 2, hm, _, _, _, _, _, _ => exact absurd hm (by decide)
    | 3, hm, _, _, _, _, _, _ => exact absurd hm (by decide)
    | 4, hm, _, _, _, _, _, _ => exact absurd hm (by decide)
    | 5, hm, _, _, _, _, _, _ => exact absurd hm (by decide)
    | 6, _, ho, h0, hf, hg, hfr, hdep =>
      simp only [gTA, gCZ, gCS, gSI] at ho
      subst ho
      refine ⟨rfl, ?_⟩
      have ts : ρ (.tmp 34) = .pointer (some ⟨P, 0, none⟩) := hdep 5 34 (by kernel_rfl) (by kernel_rfl)
      simp [go_sem, ts, hfs]
      refine ⟨rfl, (H6.out _ (hC.2.1 h0).par).mono ?_⟩
      rintro e u ⟨rfl, hg⟩
      refine Or.inl ⟨_, rfl, ⟨fun _ => (hC.2.1 h0).trans hg, fun h => absurd h (by simp [doneAt]), fun h => ?_, fun h => ?_, Nat.le_trans hC.2.2.2.2 hg.grown.size⟩, rfl, ?_⟩
      · obtain ⟨ns, q1, q2⟩ := hC.2.2.1 (by simpa [doneAt] using h)
        exact ⟨ns, q1.grown hg.grown (fun e => HBK.out.2 (Option.some.inj e).symm), q2.grown hg.grown HPS.out⟩
      · exact (hC.2.2.2.1 (by simpa [doneAt] using h)).grown hg.grown (fun e => HBK.out.2 (Option.some.inj e).symm)
      · intro j t _ hs
        match j, hs with
        | 0, hs => exact hs
        | 1, hs => exact hs
        | 2, hs => exact hs
        | 3, hs => exact hs
        | 4, hs => exact hs
        | 5, hs => exact hs
        | 6, hs => exact hs
        | 7, hs => obtain ⟨b, q1, q2, q3, q4⟩ := hs; exact ⟨b, q1, q2, hg.grown.cell q3 (fun e => by have := Option.some.inj e; have := HPS.out; simp at *; omega), Nat.lt_of_lt_of_le q4 hg.grown.size⟩
        | 8, hs => obtain ⟨a, c, q1, q2⟩ := hs; exact ⟨a, c, q1, q2.grown hg.grown HPS.out⟩
        | 9, hs => exact hs
        | 10, hs => exact hs
        | 11, hs => exact hs
        | _ + 12, _ => trivial
    | 7, hm, _, _, _, _, _, _ => exact absurd hm (by decide)
    | 8, hm, _, _, _, _, _, _ => exact absurd hm (by decide)
    | 9, hm, _, _, _, _, _, _ => exact absurd hm (by decide)
    | 10, hm, _, _, _, _, _, _ => exact absurd hm (by decide)
    | 11, _, ho, h0, hf, hg, hfr, hdep =>
      simp only [gTA, gCZ, gCS, gSI] at ho
      subst ho
      refine ⟨rfl, ?_⟩
      have t1 : ρ (.tmp 39) = .pointer (some ⟨I, 3, none⟩) := hdep 10 39 (by kernel_rfl) (by kernel_rfl)
      obtain ⟨a8, c8, e8, hn8⟩ : ∃ a c, ρ (.tmp 37) = .slice a 1 c ∧ Ints_k w6.heap.size w' (.slice a 1 c) [x] := hdep 8 37 (by kernel_rfl) (by kernel_rfl)
      have Bk := hC.2.2.2.1 h0
      have c3 := Bk.cell (k := 3) rfl
      have f3 := Bk.frozen 3
      simp [go_sem, t1, e8, c3, f3]
      refine ⟨⟨fun h => (hC.1 (by simpa [doneAt] using h)).put HBK.out HI.out _, fun h => (hC.2.1 (by simpa [doneAt] using h)).put HBK.out HI.out _, fun _ => ⟨_, Bk.set 3 _, hn8.put HIS.out⟩, fun h => absurd h (by simp [doneAt]), by rw [World.size_setCell]; exact hC.2.2.2.2⟩, ?_⟩
      intro j t _ hs
      match j, hs with
      | 0, hs => exact hs
      | 1, hs => exact hs
      | 2, hs => exact hs
      | 3, hs => exact hs
      | 4, hs => exact hs
      | 5, hs => exact hs
      | 6, hs => exact hs
      | 7, hs => obtain ⟨b, q1, q2, q3, q4⟩ := hs; exact ⟨b, q1, q2, by rw [World.cell?_setCell_other _ _ _ _ (fun e => by have h1 := congrArg Addr.block e; have h2 := HIS.out; dsimp only at h1; omega)]; exact q3, by rw [World.size_setCell]; exact q4⟩
      | 8, hs => obtain ⟨a, c, q1, q2⟩ := hs; exact ⟨a, c, q1, q2.put HIS.out⟩
      | 9, hs => exact hs
      | 10, hs => exact hs
      | 11, hs => exact hs
      | _ + 12, _ => trivial
    | n + 12, _, ho, _, _, _, _, _ => simp at ho
  · intro V w9 hC9 hS
    simp only [puts, put_none]
    simp only [Act.put, List.setIfInBounds_toArray, List.set_cons_zero, List.set_cons_succ]
    clear hS 
    have G9 := hidden (hC9.1 rfl)
    obtain ⟨ns, hB9, hN9⟩ := hC9.2.2.1 rfl
    obtain ⟨a7, c7, rfl⟩ := hN9.shape
    have B9 : Hid (Blk 103 I w9 (itC_k 2 [] [] (.slice a7 1 c7) p2 p4 pl)) := hB9
    have N9 : Hid (Ints_k w6.heap.size w9 (.slice a7 1 c7) [x]) := hN9
    have H69 : Hid (w6.heap.size ≤ w9.heap.size) := hC9.2.2.2.2
    have HW6 : Hid (W0.heap.size ≤ w6.heap.size) := G6.out.grown.size
    have HP9 : Hid (P < w9.heap.size) := Nat.lt_of_lt_of_le HPS.out H69.out
    have HI9 : Hid (I < w9.heap.size) := Nat.lt_of_lt_of_le HIS.out H69.out
    clear hC9 hB9 hN9
    go_wp2
    refine wp_region_pan [6, 7, 10] (fun d i u z => match i with
        | 0 => z = .pointer (some ⟨I, 0, none⟩)
        | 1 => z = .pointer (some ⟨I, 0, none⟩)
        | 2 => z = .pointer (some ⟨I, 0, none⟩)
        | 3 => z = .pointer (some ⟨I, 3, none⟩)
        | 4 => z = .slice a7 1 c7
        | 5 => z = .pointer (some ⟨P, 0, none⟩)
        | 6 => ∃ a c, z = .slice a (numsR ts j6).length c ∧ Ints_k w9.heap.size u (.slice a (numsR ts j6).length c) (numsR ts j6)
        | 7 => d 7 = true ∧ ∃ a c, z = .slice a (x :: numsR ts j6).length c ∧ Ints_k w6.heap.size u (.slice a (x :: numsR ts j6).length c) (x :: numsR ts j6)
        | 8 => z = .pointer (some ⟨I, 0, none⟩)
        | 9 => z = .pointer (some ⟨I, 3, none⟩)
        | 10 => True
        | _ => True) (fun d u => (d 6 = true → Goes P v ts (j6 + (numsR ts j6).length) W0 u) ∧ (d 6 = false → Goes P v ts j6 W0 u) ∧ (d 7 = false → Ints_k w6.heap.size u (.slice a7 1 c7) [x]) ∧ (d 10 = true → ∃ ns, Blk 103 I u (itC_k 2 [] [] ns p2 p4 pl) ∧ Ints_k w6.heap.size u ns (x :: numsR ts j6)) ∧ (d 10 = false → Blk 103 I u (itC_k 2 [] [] (.slice a7 1 c7) p2 p4 pl)) ∧ w9.heap.size ≤ u.heap.size) (Z := fun _ _ => False) ?_ (by kernel_rfl) (by kernel_rfl) (by kernel_rfl) ?_ ?_ ?_ ?_ ?_ ?_ (by kernel_rfl)
    · intro c a' w' _ h
      cases h
    · intro d i w v w' h hb
      match i, h with
      | 0, h => exact h
      | 1, h => exact h
      | 2, h => exact h
      | 3, h => exact h
      | 4, h => exact h
      | 5, h => exact h
      | 6, h => obtain ⟨a, c, q1, q2⟩ := h; exact ⟨a, c, q1, q2.below hb⟩
      | 7, h => obtain ⟨q0, a, c, q1, q2⟩ := h; exact ⟨q0, a, c, q1, q2.below hb⟩
      | 8, h => exact h
      | 9, h => exact h
      | 10, h => exact h
      | _ + 11, _ => trivial
    · intro d u u' h hb
      exact ⟨fun h1 => (h.1 h1).later hb, fun h1 => (h.2.1 h1).later hb, fun h1 => (h.2.2.1 h1).below hb, fun h1 => by { obtain ⟨ns, q1, q2⟩ := h.2.2.2.1 h1; exact ⟨ns, q1.below hb, q2.below hb⟩ }, fun h1 => (h.2.2.2.2.1 h1).below hb, Nat.le_trans h.2.2.2.2.2 hb.size⟩
    · exact ⟨fun h => absurd h (by decide), fun _ => G9.out, fun _ => N9.out, fun h => absurd h (by decide), fun _ => B9.out, Nat.le_refl _⟩
    · intro d i o ρ w' hm ho hf hg hC hcs hfs hfr hdep
      match i, hm, ho, hf, hg, hfr, hdep with
      | 0, _, ho, hf, hg, hfr, hdep =>
        simp only [gTA, gCZ, gSI] at ho
        subst ho
        refine ⟨fun _ => ?_, fun hw => absurd (show true = false from hw) (by decide)⟩
        have ts : ρ (.tmp 1) = .pointer (some ⟨I, 0, none⟩) := hfr 1 (by kernel_rfl)
        simp [go_sem, ts]
        exact ⟨Below.refl _ _, rfl⟩
      | 1, _, ho, hf, hg, hfr, hdep =>
        simp only [gTA, gCZ, gCS, gSI] at ho
        subst ho
        refine ⟨fun _ => ?_, fun hw => absurd (show true = false from hw) (by decide)⟩
        have ts : ρ (.tmp 1) = .pointer (some ⟨I, 0, none⟩) := hfr 1 (by kernel_rfl)
        simp [go_sem, ts]
        exact ⟨Below.refl _ _, rfl⟩
      | 2, _, ho, hf, hg, hfr, hdep =>
        simp only [gTA, gCZ, gCS, gSI] at ho
        subst ho
        refine ⟨fun _ => ?_, fun hw => absurd (show true = false from hw) (by decide)⟩
        have d0 : ρ (.tmp 41) = .pointer (some ⟨I, 0, none⟩) := hdep 1 41 (by kernel_rfl) (by kernel_rfl)
        simp [go_sem, d0]
        exact ⟨Below.refl _ _, rfl⟩
      | 3, _, ho, hf, hg, hfr, hdep =>
        simp only [gTA, gCZ, gCS, gSI] at ho
        subst ho
        refine ⟨fun _ => ?_, fun hw => absurd (show true = false from hw) (by decide)⟩
        have d0 : ρ (.tmp 42) = .pointer (some ⟨I, 0, none⟩) := hdep 2 42 (by kernel_rfl) (by kernel_rfl)
        simp [go_sem, d0]
        exact ⟨Below.refl _ _, rfl⟩
      | 4, _, ho, hf, hg, hfr, hdep =>
        simp only [gTA, gCZ, gCS, gSI] at ho
        subst ho
        refine ⟨fun _ => ?_, fun hw => absurd (show true = false from hw) (by decide)⟩
        have Bk := hC.2.2.2.2.1 (hf 10 (by decide) (by kernel_rfl))
        have c3 : w'.cell? ⟨I, 3, none⟩ = some (.slice a7 1 c7) := Bk.cell (k := 3) rfl
        have d0 : ρ (.tmp 43) = .pointer (some ⟨I, 3, none⟩) := hdep 3 43 (by kernel_rfl) (by kernel_rfl)
        simp [go_sem, d0, c3]
        exact ⟨Below.refl _ _, rfl⟩
      | 5, _, ho, hf, hg, hfr, hdep =>
        simp only [gTA, gCZ, gCS, gSI] at ho
        subst ho
        refine ⟨fun _ => ?_, fun hw => absurd (show true = false from hw) (by decide)⟩
        have ts : ρ (.tmp 0) = .pointer (some ⟨P, 0, none⟩) := hfr 0 (by kernel_rfl)
        simp [go_sem, ts]
        exact ⟨Below.refl _ _, rfl⟩
      | 6, hm, _, _, _, _, _ => exact absurd hm (by decide)
      | 7, hm, _, _, _, _, _ => exact absurd hm (by decide)
      | 8, _, ho, hf, hg, hfr, hdep =>
        simp only [gTA, gCZ, gCS, gSI] at ho
        subst ho
        refine ⟨fun _ => ?_, fun hw => absurd (show true = false from hw) (by decide)⟩
        have d0 : ρ (.tmp 40) = .pointer (some ⟨I, 0, none⟩) := hdep 0 40 (by kernel_rfl) (by kernel_rfl)
        simp [go_sem, d0]
        exact ⟨Below.refl _ _, rfl⟩
      | 9, _, ho, hf, hg, hfr, hdep =>
        simp only [gTA, gCZ, gCS, gSI] at ho
        subst ho
        refine ⟨fun _ => ?_, fun hw => absurd (show true = false from hw) (by decide)⟩
        have d0 : ρ (.tmp 48) = .pointer (some ⟨I, 0, none⟩) := hdep 8 48 (by kernel_rfl) (by kernel_rfl)
        simp [go_sem, d0]
        exact ⟨Below.refl _ _, rfl⟩
      | 10, hm, _, _, _, _, _ => exact absurd hm (by decide)
      | n + 11, _, ho, _, _, _, _ => simp at ho
    · intro d i o ρ w' hm ho h0 hf hg hC hcs hfs hfr hdep
      match i, hm, ho, h0, hf, hg, hfr, hdep with
      | 0, hm, _, _, _, _, _, _ => exact absurd hm (by decide)
      | 1, hm, _, _, _, _, _, _ => exact absurd hm (by decide)
      | 2, hm, _, _, _, _, _, _ => exact absurd hm (by decide)
      | 3, hm, _, _, _, _, _, _ => exact absurd hm (by decide)
      | 4, hm, _, _, _, _, _, _ => exact absurd hm (by decide)
      | 5, hm, _, _, _, _, _, _ => exact absurd hm (by decide)
      | 6, _, ho, h0, hf, hg, hfr, hdep =>
        simp only [gTA, gCZ, gCS, gSI] at ho
        subst ho
        refine ⟨rfl, ?_⟩
        have ts : ρ (.tmp 45) = .pointer (some ⟨P, 0, none⟩) := hdep 5 45 (by kernel_rfl) (by kernel_rfl)
        simp [go_sem, ts, hfs]
        refine ⟨rfl, (H8.out _ (hC.2.1 h0).par).mono ?_⟩
        rintro e u ⟨a, c, rfl, hin, hg⟩
        refine Or.inl ⟨_, rfl, ⟨fun _ => (hC.2.1 h0).trans hg, fun h => absurd h (by simp [doneAt]), fun h => (hC.2.2.1 (by simpa [doneAt] using h)).grown hg.grown HPS.out, fun h => ?_, fun h => ?_, Nat.le_trans hC.2.2.2.2.2 hg.grown.size⟩, ⟨a, c, rfl, hin.mono hC.2.2.2.2.2⟩, ?_⟩
        · obtain ⟨ns, q1, q2⟩ := hC.2.2.2.1 (by simpa [doneAt] using h)
          exact ⟨ns, q1.grown hg.grown (fun e => HBK.out.2 (Option.some.inj e).symm), q2.grown hg.grown HPS.out⟩
        · exact (hC.2.2.2.2.1 (by simpa [doneAt] using h)).grown hg.grown (fun e => HBK.out.2 (Option.some.inj e).symm)
        · intro j t _ hs
          match j, hs with
          | 0, hs => exact hs
          | 1, hs => exact hs
          | 2, hs => exact hs
          | 3, hs => exact hs
          | 4, hs => exact hs
          | 5, hs => exact hs
          | 6, hs => obtain ⟨a, c, q1, q2⟩ := hs; exact ⟨a, c, q1, q2.grown hg.grown HP9.out⟩
          | 7, hs => obtain ⟨q0, a, c, q1, q2⟩ := hs; exact ⟨by simpa [doneAt] using q0, a, c, q1, q2.grown hg.grown HPS.out⟩
          | 8, hs => exact hs
          | 9, hs => exact hs
          | 10, hs => exact hs
          | _ + 11, _ => trivial
      | 7, _, ho, h0, hf, hg, hfr, hdep =>
        simp only [gTA, gCZ, gCS, gSI] at ho
        subst ho
        refine ⟨rfl, ?_⟩
        obtain ⟨a, c, e6, hn6⟩ : ∃ a c, ρ (.tmp 46) = .slice a (numsR ts j6).length c ∧ Ints_k w9.heap.size w' (.slice a (numsR ts j6).length c) (numsR ts j6) := hdep 6 46 (by kernel_rfl) (by kernel_rfl)
        have tq : ρ (.tmp 44) = .slice a7 1 c7 := hdep 4 44 (by kernel_rfl) (by kernel_rfl)
        have hN := hC.2.2.1 h0
        obtain ⟨r', w'', hr, ho, hg⟩ := ints_append w6.heap.size w9.heap.size w' (.slice a7 1 c7) (.slice a (numsR ts j6).length c) [x] (numsR ts j6) hN hn6 (Nat.le_trans H69.out hC.2.2.2.2.2) (by have := HLN.out; simp; omega)
        unfold execOp
        simp only [resolve, invoke, builtin, Sem.run_bind, Sem.run_pure, Result.andThen_ok, List.map_toArray, List.map_cons, List.map_nil, tq, e6, hr]
        obtain ⟨a2, c2, rfl⟩ := ho.shape
        have hrow : ∀ k, (Value.slice a7 1 c7).ownBlock = some k → w6.heap.size ≤ k := own_row_k hN
        have hlow : ∀ k, (Value.slice a7 1 c7).ownBlock = some k → k < w9.heap.size := own_lt_k N9.out
        have hd10 := hf 10 (by decide) (by kernel_rfl)
        refine ⟨⟨fun h => (hC.1 (by simpa [doneAt] using h)).own HP0.out hg (fun k e => Nat.le_trans HW6.out (hrow k e)), fun h => (hC.2.1 (by simpa [doneAt] using h)).own HP0.out hg (fun k e => Nat.le_trans HW6.out (hrow k e)), fun h => absurd h (by simp [doneAt]), fun h => absurd (hd10.symm.trans (by simpa [doneAt] using h)) (by decide), fun _ => (hC.2.2.2.2.1 hd10).grown hg (fun e => by have := hrow I e.symm; have := HIS.out; omega), Nat.le_trans hC.2.2.2.2.2 hg.size⟩, fun _ => ⟨by simp [doneAt], a2, c2, rfl, ho⟩, ?_⟩
        intro j t _ hs
        match j, hs with
        | 0, hs => exact hs
        | 1, hs => exact hs
        | 2, hs => exact hs
        | 3, hs => exact hs
        | 4, hs => exact hs
        | 5, hs => exact hs
        | 6, hs => obtain ⟨a, c, q1, q2⟩ := hs; exact ⟨a, c, q1, q2.kept hg hlow⟩
        | 7, hs => exact absurd (h0.symm.trans hs.1) (by decide)
        | 8, hs => exact hs
        | 9, hs => exact hs
        | 10, hs => exact hs
        | _ + 11, _ => trivial
      | 8, hm, _, _, _, _, _, _ => exact absurd hm (by decide)
      | 9, hm, _, _, _, _, _, _ => exact absurd hm (by decide)
      | 10, _, ho, h0, hf, hg, hfr, hdep =>
        simp only [gTA, gCZ, gCS, gSI] at ho
        subst ho
        refine ⟨rfl, ?_⟩
        have t1 : ρ (.tmp 49) = .pointer (some ⟨I, 3, none⟩) := hdep 9 49 (by kernel_rfl) (by kernel_rfl)
        obtain ⟨hd7, a8, c8, e8, hn8⟩ : d 7 = true ∧ ∃ a c, ρ (.tmp 47) = .slice a (x :: numsR ts j6).length c ∧ Ints_k w6.heap.size w' (.slice a (x :: numsR ts j6).length c) (x :: numsR ts j6) := hdep 7 47 (by kernel_rfl) (by kernel_rfl)
        have Bk := hC.2.2.2.2.1 h0
        have c3 := Bk.cell (k := 3) rfl
        have f3 := Bk.frozen 3
        generalize (x :: numsR ts j6).length = LX at *
        simp [go_sem, t1, e8, c3, f3]
        refine ⟨⟨fun h => (hC.1 (by simpa [doneAt] using h)).put HBK.out HI.out _, fun h => (hC.2.1 (by simpa [doneAt] using h)).put HBK.out HI.out _, fun h => absurd (hd7.symm.trans (by simpa [doneAt] using h)) (by decide), fun _ => ⟨_, Bk.set 3 _, hn8.put HIS.out⟩, fun h => absurd h (by simp [doneAt]), by rw [World.size_setCell]; exact hC.2.2.2.2.2⟩, ?_⟩
        intro j t _ hs
        match j, hs with
        | 0, hs => exact hs
        | 1, hs => exact hs
        | 2, hs => exact hs
        | 3, hs => exact hs
        | 4, hs => exact hs
        | 5, hs => exact hs
        | 6, hs => obtain ⟨a, c, q1, q2⟩ := hs; exact ⟨a, c, q1, q2.put HI9.out⟩
        | 7, hs => obtain ⟨q0, a, c, q1, q2⟩ := hs; exact ⟨by simpa [doneAt] using q0, a, c, q1, q2.put HIS.out⟩
        | 8, hs => exact hs
        | 9, hs => exact hs
        | 10, hs => exact hs
        | _ + 11, _ => trivial
      | n + 11, _, ho, _, _, _, _, _ => simp at ho
    · intro V wx hC9 hS
      simp only [puts, put_none]
      simp only [Act.put, List.setIfInBounds_toArray, List.set_cons_zero, List.set_cons_succ]
      clear hS 
      obtain ⟨ns, hB, hN⟩ := hC9.2.2.2.1 rfl
      go_end0
      exact ⟨rfl, ⟨ns, hB, hN.mono HW6.out⟩, hC9.1 rfl, HJL.out⟩
end Go.Proofs.YtolpelfdhcccnaaGreatDoor
