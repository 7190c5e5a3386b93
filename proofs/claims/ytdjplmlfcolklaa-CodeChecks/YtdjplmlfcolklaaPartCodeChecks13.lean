/- Texts of one chain, laid one behind the other. -/
import Derived.Test.YtdjplmlfcolklaaPartCodeChecks1
import Derived.Test.YtdjplmlfcolklaaPartCodeChecks12
import Derived.Test.YtdjplmlfcolklaaPartCodeChecks8
namespace Go.Proofs.Ytdjplmlfcolklaa
open Go.ChangeShapes Go.WideShapes Go.ChangeAt Go.RowKit
theorem hiddenC {p : Prop} (h : p) : Hid p := h
theorem wrapC (x : Int) : IntKind.i64.wrap x = wrap64 x := by rw [IntKind.wrap_i64]; unfold wrap64; rfl
/-- Bytes as a text. -/
def strC (l : List UInt8) : ByteArray := ⟨l.toArray⟩
theorem strC_size (l : List UInt8) : (strC l).size = l.length := rfl
def prtV (x : PrtC × (Option Addr × Nat)) : List Value := [.int .u8 (x.1.tag : Int), .slice x.2.1 x.1.ps.length x.2.2]
def linV (x : LinC × (Option Addr × Nat)) : List Value := [.int .i64 x.1.base, .int .i64 x.1.size, .slice x.2.1 x.1.start.length x.2.2]
def opV (q : OpC) : List Value := [.int .u8 (q.kind : Int), .int .i64 q.a, .int .i64 q.b]
def hdV (h : HdC) : List Value := [.int .i64 h.place, .int .i64 h.counter, .int .i64 h.times, .int .i64 h.ahead]
theorem prtV_len (x) : (prtV x).length = 2 := rfl
theorem linV_len (x) : (linV x).length = 3 := rfl
theorem opV_len (q) : (opV q).length = 3 := rfl
theorem hdV_len (h) : (hdV h).length = 4 := rfl
/-- A program's value. -/
def prgV (p : PrgC) (aP : Option Addr) (cP : Nat) (aL : Option Addr) (cL : Nat) (aO : Option Addr) (cO : Nat) : Value :=
  .agg #[.int .i64 p.mem, .int .i64 p.cnt, .int .i64 p.ins, .int .i64 p.outs, .slice aP p.parts.length cP, .slice aL p.lines.length cL, .slice aO p.ops.length cO]
/-- A program's rows as they lie. -/
structure PrgL (w : World) (p : PrgC) (aP aL aO : Option Addr) (LP : List (PrtC × (Option Addr × Nat))) (LL : List (LinC × (Option Addr × Nat))) : Prop where
  pe : LP.map Prod.fst = p.parts
  pa : AtV prtV 2 w aP LP
  pp : ∀ x ∈ LP, At w x.2.1 x.1.ps
  le : LL.map Prod.fst = p.lines
  la : AtV linV 3 w aL LL
  lp : ∀ x ∈ LL, At w x.2.1 x.1.start
  oa : AtV opV 3 w aO p.ops
theorem PrgL.below {w w' p aP aL aO LP LL} (h : PrgL w p aP aL aO LP LL) (hb : Below w.heap.size w w') : PrgL w' p aP aL aO LP LL :=
  ⟨h.pe, h.pa.below hb, fun x hx => (h.pp x hx).below hb, h.le, h.la.below hb, fun x hx => (h.lp x hx).below hb, h.oa.below hb⟩
set_option maxRecDepth 100000 in
theorem withinC_any (n lo hi : Int) (W : World) : Calls Try.prog 45 #[.int .i64 n, .int .i64 lo, .int .i64 hi] W fun e w' => e = .returned (.bool (wiC n lo hi)) ∧ w' = W := by
  by_cases h1 : n ≥ lo
  · by_cases h2 : n ≤ hi
    · have e : wiC n lo hi = true := wiC_iff.2 ⟨h1, h2⟩
      rw [e]; clear e
      go_enter Try.func45, Try.ntmps45
      go_wp2
      go_ret
      exact ⟨rfl, rfl⟩
    · have e : wiC n lo hi = false := by unfold wiC; rw [decide_eq_false h2, Bool.and_false]
      rw [e]; clear e
      go_enter Try.func45, Try.ntmps45
      go_wp2
      go_ret
      exact ⟨rfl, rfl⟩
  · have e : wiC n lo hi = false := by unfold wiC; rw [decide_eq_false h1, Bool.false_and]
    rw [e]; clear e
    go_enter Try.func45, Try.ntmps45
    go_wp2
    go_ret
    exact ⟨rfl, rfl⟩
set_option maxRecDepth 100000 in
theorem namesC_any (n many : Int) (W : World) : Calls Try.prog 73 #[.int .i64 n, .int .i64 many] W fun e w' => e = .returned (.bool (naC n many)) ∧ w' = W := by
  by_cases h1 : n ≥ 0
  · by_cases h2 : n < many
    · have e : naC n many = true := naC_iff.2 ⟨h1, h2⟩
      rw [e]; clear e
      go_enter Try.func73, Try.ntmps73
      go_wp2
      go_ret
      exact ⟨rfl, rfl⟩
    · have e : naC n many = false := by unfold naC; rw [decide_eq_false h2, Bool.and_false]
      rw [e]; clear e
      go_enter Try.func73, Try.ntmps73
      go_wp2
      go_ret
      exact ⟨rfl, rfl⟩
  · have e : naC n many = false := by unfold naC; rw [decide_eq_false h1, Bool.false_and]
    rw [e]; clear e
    go_enter Try.func73, Try.ntmps73
    go_wp2
    go_ret
    exact ⟨rfl, rfl⟩
set_option maxRecDepth 100000 in
set_option maxHeartbeats 1000000 in
/-- Is a region inside memory? (Nothing wraps round: memory is from 0 on and below 2^62, and Base is asked for first.) -/
theorem insideC_any (b s m : Int) (hm : 0 ≤ m ∧ m ≤ 1024) (hb : b ≤ 9223372036854775807) (W : World) : Calls Try.prog 47 #[.agg #[.int .i64 b, .int .i64 s], .int .i64 m] W fun e w' => e = .returned (.bool (decide (0 ≤ b) && (decide (0 ≤ s) && decide (s ≤ m - b)))) ∧ Below W.heap.size W w' := by
  have B0 := hiddenC ((Below.refl W.heap.size W).alloc (Nat.le_refl _) (.cells #[.int .i64 b, .int .i64 s] 47))
  have G0 := hiddenC (blkA_new 47 W #[.int .i64 b, .int .i64 s])
  have z0 := G0.out.cell (k := 0) rfl
  have z1 := G0.out.cell (k := 1) rfl
  simp only [List.getElem_toArray, List.getElem_cons_zero, List.getElem_cons_succ] at z0 z1
  by_cases h1 : b ≥ 0
  · rw [decide_eq_true (show 0 ≤ b from h1), Bool.true_and]
    by_cases h2 : s ≥ 0
    · rw [decide_eq_true (show 0 ≤ s from h2), Bool.true_and]
      have hw : IntKind.i64.wrap (m - b) = m - b := by rw [wrapC]; unfold wrap64; omega
      obtain ⟨x, hx⟩ : ∃ x, m - b = x := ⟨_, rfl⟩
      rw [hx] at hw ⊢
      clear hm hb
      by_cases h3 : s ≤ x
      · rw [decide_eq_true h3]
        go_enter Try.func47, Try.ntmps47
        go_upto_region 1 with fail
        generalize W.alloc (.cells #[.int .i64 b, .int .i64 s] 47) = W1 at *
        go_wp2
        go_ret
        exact ⟨rfl, B0.out⟩
      · rw [decide_eq_false h3]
        go_enter Try.func47, Try.ntmps47
        go_upto_region 1 with fail
        generalize W.alloc (.cells #[.int .i64 b, .int .i64 s] 47) = W1 at *
        go_wp2
        go_ret
        exact ⟨rfl, B0.out⟩
    · rw [decide_eq_false (show ¬ 0 ≤ s from h2), Bool.false_and]
      clear hm hb
      go_enter Try.func47, Try.ntmps47
      go_upto_region 1 with fail
      generalize W.alloc (.cells #[.int .i64 b, .int .i64 s] 47) = W1 at *
      go_wp2
      go_ret
      exact ⟨rfl, B0.out⟩
  · rw [decide_eq_false (show ¬ 0 ≤ b from h1), Bool.false_and]
    clear hm hb
    go_enter Try.func47, Try.ntmps47
    go_upto_region 1 with fail
    generalize W.alloc (.cells #[.int .i64 b, .int .i64 s] 47) = W1 at *
    go_wp2
    go_ret
    exact ⟨rfl, B0.out⟩
set_option maxRecDepth 100000 in
set_option maxHeartbeats 2000000 in
theorem letsC_1 (p : PrgC) (a b : Int) (aP : Option Addr) (cP : Nat) (aL : Option Addr) (cL : Nat) (aO : Option Addr) (cO : Nat) (W : World) : Calls Try.prog 48 #[prgV p aP cP aL cL aO cO, .agg #[.int .u8 1, .int .i64 a, .int .i64 b]] W fun e w' => e = .returned (.bool (letsC p ⟨1, a, b⟩)) ∧ Below W.heap.size W w' := by
  have E : letsC p ⟨1, a, b⟩ = (naC a p.cnt && wiC b 1 2048) := rfl
  rw [E]
  clear E
  have b0 := (Below.refl W.heap.size W).alloc (Nat.le_refl _) (.cells #[.int .i64 p.mem, .int .i64 p.cnt, .int .i64 p.ins, .int .i64 p.outs, .slice aP p.parts.length cP, .slice aL p.lines.length cL, .slice aO p.ops.length cO] 26)
  have B0 := hiddenC (b0.alloc (by have := b0.size; omega) (.cells #[.int .u8 1, .int .i64 a, .int .i64 b] 53))
  have g0 := blkA_new 26 W #[.int .i64 p.mem, .int .i64 p.cnt, .int .i64 p.ins, .int .i64 p.outs, .slice aP p.parts.length cP, .slice aL p.lines.length cL, .slice aO p.ops.length cO]
  have G1 := hiddenC (blkA_new 53 (W.alloc (.cells #[.int .i64 p.mem, .int .i64 p.cnt, .int .i64 p.ins, .int .i64 p.outs, .slice aP p.parts.length cP, .slice aL p.lines.length cL, .slice aO p.ops.length cO] 26)) #[.int .u8 1, .int .i64 a, .int .i64 b])
  have G0 := hiddenC (g0.below ((Below.refl _ _).alloc (Nat.le_refl _) (.cells #[.int .u8 1, .int .i64 a, .int .i64 b] 53)))
  have hs : (W.alloc (.cells #[.int .i64 p.mem, .int .i64 p.cnt, .int .i64 p.ins, .int .i64 p.outs, .slice aP p.parts.length cP, .slice aL p.lines.length cL, .slice aO p.ops.length cO] 26)).heap.size = W.heap.size + 1 := World.size_alloc ..
  rw [hs] at G1
  have z0 := G0.out.cell (k := 0) rfl
  have z1 := G0.out.cell (k := 1) rfl
  have z2 := G0.out.cell (k := 2) rfl
  have z3 := G0.out.cell (k := 3) rfl
  have z4 := G0.out.cell (k := 4) rfl
  have z5 := G0.out.cell (k := 5) rfl
  have z6 := G0.out.cell (k := 6) rfl
  have y0 := G1.out.cell (k := 0) rfl
  have y1 := G1.out.cell (k := 1) rfl
  have y2 := G1.out.cell (k := 2) rfl
  simp only [List.getElem_toArray, List.getElem_cons_zero, List.getElem_cons_succ] at z0 z1 z2 z3 z4 z5 z6 y0 y1 y2
  clear hs G0 G1 b0 g0
  unfold prgV
  have N1 : Hid (∀ U, Calls Try.prog 73 #[.int .i64 a, .int .i64 p.cnt] U fun e w' => e = .returned (.bool (naC a p.cnt)) ∧ w' = U) := fun U => namesC_any _ _ U
  have N2 : Hid (∀ U, Calls Try.prog 45 #[.int .i64 b, .int .i64 1, .int .i64 2048] U fun e w' => e = .returned (.bool (wiC b 1 2048)) ∧ w' = U) := fun U => withinC_any _ _ _ U
  generalize wiC b 1 2048 = y at *
  generalize naC a p.cnt = x at *
  generalize p.parts.length = nparts at *
  generalize p.lines.length = nlines at *
  generalize p.ops.length = nops at *
  cases x with
  | false =>
    rw [Bool.false_and]
    go_enter Try.func48, Try.ntmps48
    go_upto_region 1 with fail
    generalize (W.alloc (.cells #[.int .i64 p.mem, .int .i64 p.cnt, .int .i64 p.ins, .int .i64 p.outs, .slice aP nparts cP, .slice aL nlines cL, .slice aO nops cO] 26)).alloc (.cells #[.int .u8 1, .int .i64 a, .int .i64 b] 53) = W1 at *
    go_wp2_with (first
      | (go_at_call 45; (with_reducible refine (N2.out _).mono ?_); rintro e w' ⟨rfl, hw'⟩; rw [hw']; clear hw' w')
      | (go_at_call 73; (with_reducible refine (N1.out _).mono ?_); rintro e w' ⟨rfl, hw'⟩; rw [hw']; clear hw' w'))
    go_ret
    exact ⟨rfl, B0.out⟩
  | true =>
    rw [Bool.true_and]
    go_enter Try.func48, Try.ntmps48
    go_upto_region 1 with fail
    generalize (W.alloc (.cells #[.int .i64 p.mem, .int .i64 p.cnt, .int .i64 p.ins, .int .i64 p.outs, .slice aP nparts cP, .slice aL nlines cL, .slice aO nops cO] 26)).alloc (.cells #[.int .u8 1, .int .i64 a, .int .i64 b] 53) = W1 at *
    go_wp2_with (first
      | (go_at_call 45; (with_reducible refine (N2.out _).mono ?_); rintro e w' ⟨rfl, hw'⟩; rw [hw']; clear hw' w')
      | (go_at_call 73; (with_reducible refine (N1.out _).mono ?_); rintro e w' ⟨rfl, hw'⟩; rw [hw']; clear hw' w'))
    go_ret
    exact ⟨rfl, B0.out⟩
set_option maxRecDepth 100000 in
set_option maxHeartbeats 2000000 in
theorem letsC_2 (p : PrgC) (a b : Int) (aP : Option Addr) (cP : Nat) (aL : Option Addr) (cL : Nat) (aO : Option Addr) (cO : Nat) (W : World) : Calls Try.prog 48 #[prgV p aP cP aL cL aO cO, .agg #[.int .u8 2, .int .i64 a, .int .i64 b]] W fun e w' => e = .returned (.bool (letsC p ⟨2, a, b⟩)) ∧ Below W.heap.size W w' := by
  have E : letsC p ⟨2, a, b⟩ = (naC a p.cnt && naC b p.ops.length) := rfl
  rw [E]
  clear E
  have b0 := (Below.refl W.heap.size W).alloc (Nat.le_refl _) (.cells #[.int .i64 p.mem, .int .i64 p.cnt, .int .i64 p.ins, .int .i64 p.outs, .slice aP p.parts.length cP, .slice aL p.lines.length cL, .slice aO p.ops.length cO] 26)
  have B0 := hiddenC (b0.alloc (by have := b0.size; omega) (.cells #[.int .u8 2, .int .i64 a, .int .i64 b] 53))
  have g0 := blkA_new 26 W #[.int .i64 p.mem, .int .i64 p.cnt, .int .i64 p.ins, .int .i64 p.outs, .slice aP p.parts.length cP, .slice aL p.lines.length cL, .slice aO p.ops.length cO]
  have G1 := hiddenC (blkA_new 53 (W.alloc (.cells #[.int .i64 p.mem, .int .i64 p.cnt, .int .i64 p.ins, .int .i64 p.outs, .slice aP p.parts.length cP, .slice aL p.lines.length cL, .slice aO p.ops.length cO] 26)) #[.int .u8 2, .int .i64 a, .int .i64 b])
  have G0 := hiddenC (g0.below ((Below.refl _ _).alloc (Nat.le_refl _) (.cells #[.int .u8 2, .int .i64 a, .int .i64 b] 53)))
  have hs : (W.alloc (.cells #[.int .i64 p.mem, .int .i64 p.cnt, .int .i64 p.ins, .int .i64 p.outs, .slice aP p.parts.length cP, .slice aL p.lines.length cL, .slice aO p.ops.length cO] 26)).heap.size = W.heap.size + 1 := World.size_alloc ..
  rw [hs] at G1
  have z0 := G0.out.cell (k := 0) rfl
  have z1 := G0.out.cell (k := 1) rfl
  have z2 := G0.out.cell (k := 2) rfl
  have z3 := G0.out.cell (k := 3) rfl
  have z4 := G0.out.cell (k := 4) rfl
  have z5 := G0.out.cell (k := 5) rfl
  have z6 := G0.out.cell (k := 6) rfl
  have y0 := G1.out.cell (k := 0) rfl
  have y1 := G1.out.cell (k := 1) rfl
  have y2 := G1.out.cell (k := 2) rfl
  simp only [List.getElem_toArray, List.getElem_cons_zero, List.getElem_cons_succ] at z0 z1 z2 z3 z4 z5 z6 y0 y1 y2
  clear hs G0 G1 b0 g0
  unfold prgV
  have N1 : Hid (∀ U, Calls Try.prog 73 #[.int .i64 a, .int .i64 p.cnt] U fun e w' => e = .returned (.bool (naC a p.cnt)) ∧ w' = U) := fun U => namesC_any _ _ U
  have N2 : Hid (∀ U, Calls Try.prog 73 #[.int .i64 b, .int .i64 (p.ops.length : Int)] U fun e w' => e = .returned (.bool (naC b (p.ops.length : Int))) ∧ w' = U) := fun U => namesC_any _ _ U
  generalize naC b (p.ops.length : Int) = y at *
  generalize naC a p.cnt = x at *
  generalize p.parts.length = nparts at *
  generalize p.lines.length = nlines at *
  generalize p.ops.length = nops at *
  cases x with
  | false =>
    rw [Bool.false_and]
    go_enter Try.func48, Try.ntmps48
    go_upto_region 1 with fail
    generalize (W.alloc (.cells #[.int .i64 p.mem, .int .i64 p.cnt, .int .i64 p.ins, .int .i64 p.outs, .slice aP nparts cP, .slice aL nlines cL, .slice aO nops cO] 26)).alloc (.cells #[.int .u8 2, .int .i64 a, .int .i64 b] 53) = W1 at *
    go_wp2_with (first
      | (go_at_call 73; (with_reducible refine (N2.out _).mono ?_); rintro e w' ⟨rfl, hw'⟩; rw [hw']; clear hw' w')
      | (go_at_call 73; (with_reducible refine (N1.out _).mono ?_); rintro e w' ⟨rfl, hw'⟩; rw [hw']; clear hw' w'))
    go_ret
    exact ⟨rfl, B0.out⟩
  | true =>
    rw [Bool.true_and]
    go_enter Try.func48, Try.ntmps48
    go_upto_region 1 with fail
    generalize (W.alloc (.cells #[.int .i64 p.mem, .int .i64 p.cnt, .int .i64 p.ins, .int .i64 p.outs, .slice aP nparts cP, .slice aL nlines cL, .slice aO nops cO] 26)).alloc (.cells #[.int .u8 2, .int .i64 a, .int .i64 b] 53) = W1 at *
    go_wp2_with (first
      | (go_at_call 73; (with_reducible refine (N2.out _).mono ?_); rintro e w' ⟨rfl, hw'⟩; rw [hw']; clear hw' w')
      | (go_at_call 73; (with_reducible refine (N1.out _).mono ?_); rintro e w' ⟨rfl, hw'⟩; rw [hw']; clear hw' w'))
    go_ret
    exact ⟨rfl, B0.out⟩
set_option maxRecDepth 100000 in
set_option maxHeartbeats 2000000 in
theorem letsC_3 (p : PrgC) (a b : Int) (aP : Option Addr) (cP : Nat) (aL : Option Addr) (cL : Nat) (aO : Option Addr) (cO : Nat) (W : World) : Calls Try.prog 48 #[prgV p aP cP aL cL aO cO, .agg #[.int .u8 3, .int .i64 a, .int .i64 b]] W fun e w' => e = .returned (.bool (letsC p ⟨3, a, b⟩)) ∧ Below W.heap.size W w' := by
  have E : letsC p ⟨3, a, b⟩ = (naC a p.lines.length && wiC b 1 64) := rfl
  rw [E]
  clear E
  have b0 := (Below.refl W.heap.size W).alloc (Nat.le_refl _) (.cells #[.int .i64 p.mem, .int .i64 p.cnt, .int .i64 p.ins, .int .i64 p.outs, .slice aP p.parts.length cP, .slice aL p.lines.length cL, .slice aO p.ops.length cO] 26)
  have B0 := hiddenC (b0.alloc (by have := b0.size; omega) (.cells #[.int .u8 3, .int .i64 a, .int .i64 b] 53))
  have g0 := blkA_new 26 W #[.int .i64 p.mem, .int .i64 p.cnt, .int .i64 p.ins, .int .i64 p.outs, .slice aP p.parts.length cP, .slice aL p.lines.length cL, .slice aO p.ops.length cO]
  have G1 := hiddenC (blkA_new 53 (W.alloc (.cells #[.int .i64 p.mem, .int .i64 p.cnt, .int .i64 p.ins, .int .i64 p.outs, .slice aP p.parts.length cP, .slice aL p.lines.length cL, .slice aO p.ops.length cO] 26)) #[.int .u8 3, .int .i64 a, .int .i64 b])
  have G0 := hiddenC (g0.below ((Below.refl _ _).alloc (Nat.le_refl _) (.cells #[.int .u8 3, .int .i64 a, .int .i64 b] 53)))
  have hs : (W.alloc (.cells #[.int .i64 p.mem, .int .i64 p.cnt, .int .i64 p.ins, .int .i64 p.outs, .slice aP p.parts.length cP, .slice aL p.lines.length cL, .slice aO p.ops.length cO] 26)).heap.size = W.heap.size + 1 := World.size_alloc ..
  rw [hs] at G1
  have z0 := G0.out.cell (k := 0) rfl
  have z1 := G0.out.cell (k := 1) rfl
  have z2 := G0.out.cell (k := 2) rfl
  have z3 := G0.out.cell (k := 3) rfl
  have z4 := G0.out.cell (k := 4) rfl
  have z5 := G0.out.cell (k := 5) rfl
  have z6 := G0.out.cell (k := 6) rfl
  have y0 := G1.out.cell (k := 0) rfl
  have y1 := G1.out.cell (k := 1) rfl
  have y2 := G1.out.cell (k := 2) rfl
  simp only [List.getElem_toArray, List.getElem_cons_zero, List.getElem_cons_succ] at z0 z1 z2 z3 z4 z5 z6 y0 y1 y2
  clear hs G0 G1 b0 g0
  unfold prgV
  have N1 : Hid (∀ U, Calls Try.prog 73 #[.int .i64 a, .int .i64 (p.lines.length : Int)] U fun e w' => e = .returned (.bool (naC a (p.lines.length : Int))) ∧ w' = U) := fun U => namesC_any _ _ U
  have N2 : Hid (∀ U, Calls Try.prog 45 #[.int .i64 b, .int .i64 1, .int .i64 64] U fun e w' => e = .returned (.bool (wiC b 1 64)) ∧ w' = U) := fun U => withinC_any _ _ _ U
  generalize wiC b 1 64 = y at *
  generalize naC a (p.lines.length : Int) = x at *
  generalize p.parts.length = nparts at *
  generalize p.lines.length = nlines at *
  generalize p.ops.length = nops at *
  cases x with
  | false =>
    rw [Bool.false_and]
    go_enter Try.func48, Try.ntmps48
    go_upto_region 1 with fail
    generalize (W.alloc (.cells #[.int .i64 p.mem, .int .i64 p.cnt, .int .i64 p.ins, .int .i64 p.outs, .slice aP nparts cP, .slice aL nlines cL, .slice aO nops cO] 26)).alloc (.cells #[.int .u8 3, .int .i64 a, .int .i64 b] 53) = W1 at *
    go_wp2_with (first
      | (go_at_call 45; (with_reducible refine (N2.out _).mono ?_); rintro e w' ⟨rfl, hw'⟩; rw [hw']; clear hw' w')
      | (go_at_call 73; (with_reducible refine (N1.out _).mono ?_); rintro e w' ⟨rfl, hw'⟩; rw [hw']; clear hw' w'))
    go_ret
    exact ⟨rfl, B0.out⟩
  | true =>
    rw [Bool.true_and]
    go_enter Try.func48, Try.ntmps48
    go_upto_region 1 with fail
    generalize (W.alloc (.cells #[.int .i64 p.mem, .int .i64 p.cnt, .int .i64 p.ins, .int .i64 p.outs, .slice aP nparts cP, .slice aL nlines cL, .slice aO nops cO] 26)).alloc (.cells #[.int .u8 3, .int .i64 a, .int .i64 b] 53) = W1 at *
    go_wp2_with (first
      | (go_at_call 45; (with_reducible refine (N2.out _).mono ?_); rintro e w' ⟨rfl, hw'⟩; rw [hw']; clear hw' w')
      | (go_at_call 73; (with_reducible refine (N1.out _).mono ?_); rintro e w' ⟨rfl, hw'⟩; rw [hw']; clear hw' w'))
    go_ret
    exact ⟨rfl, B0.out⟩
set_option maxRecDepth 100000 in
set_option maxHeartbeats 2000000 in
theorem letsC_4 (p : PrgC) (a b : Int) (aP : Option Addr) (cP : Nat) (aL : Option Addr) (cL : Nat) (aO : Option Addr) (cO : Nat) (W : World) : Calls Try.prog 48 #[prgV p aP cP aL cL aO cO, .agg #[.int .u8 4, .int .i64 a, .int .i64 b]] W fun e w' => e = .returned (.bool (letsC p ⟨4, a, b⟩)) ∧ Below W.heap.size W w' := by
  have E : letsC p ⟨4, a, b⟩ = (naC a p.ins && wiC b 1 64) := rfl
  rw [E]
  clear E
  have b0 := (Below.refl W.heap.size W).alloc (Nat.le_refl _) (.cells #[.int .i64 p.mem, .int .i64 p.cnt, .int .i64 p.ins, .int .i64 p.outs, .slice aP p.parts.length cP, .slice aL p.lines.length cL, .slice aO p.ops.length cO] 26)
  have B0 := hiddenC (b0.alloc (by have := b0.size; omega) (.cells #[.int .u8 4, .int .i64 a, .int .i64 b] 53))
  have g0 := blkA_new 26 W #[.int .i64 p.mem, .int .i64 p.cnt, .int .i64 p.ins, .int .i64 p.outs, .slice aP p.parts.length cP, .slice aL p.lines.length cL, .slice aO p.ops.length cO]
  have G1 := hiddenC (blkA_new 53 (W.alloc (.cells #[.int .i64 p.mem, .int .i64 p.cnt, .int .i64 p.ins, .int .i64 p.outs, .slice aP p.parts.length cP, .slice aL p.lines.length cL, .slice aO p.ops.length cO] 26)) #[.int .u8 4, .int .i64 a, .int .i64 b])
  have G0 := hiddenC (g0.below ((Below.refl _ _).alloc (Nat.le_refl _) (.cells #[.int .u8 4, .int .i64 a, .int .i64 b] 53)))
  have hs : (W.alloc (.cells #[.int .i64 p.mem, .int .i64 p.cnt, .int .i64 p.ins, .int .i64 p.outs, .slice aP p.parts.length cP, .slice aL p.lines.length cL, .slice aO p.ops.length cO] 26)).heap.size = W.heap.size + 1 := World.size_alloc ..
  rw [hs] at G1
  have z0 := G0.out.cell (k := 0) rfl
  have z1 := G0.out.cell (k := 1) rfl
  have z2 := G0.out.cell (k := 2) rfl
  have z3 := G0.out.cell (k := 3) rfl
  have z4 := G0.out.cell (k := 4) rfl
  have z5 := G0.out.cell (k := 5) rfl
  have z6 := G0.out.cell (k := 6) rfl
  have y0 := G1.out.cell (k := 0) rfl
  have y1 := G1.out.cell (k := 1) rfl
  have y2 := G1.out.cell (k := 2) rfl
  simp only [List.getElem_toArray, List.getElem_cons_zero, List.getElem_cons_succ] at z0 z1 z2 z3 z4 z5 z6 y0 y1 y2
  clear hs G0 G1 b0 g0
  unfold prgV
  have N1 : Hid (∀ U, Calls Try.prog 73 #[.int .i64 a, .int .i64 p.ins] U fun e w' => e = .returned (.bool (naC a p.ins)) ∧ w' = U) := fun U => namesC_any _ _ U
  have N2 : Hid (∀ U, Calls Try.prog 45 #[.int .i64 b, .int .i64 1, .int .i64 64] U fun e w' => e = .returned (.bool (wiC b 1 64)) ∧ w' = U) := fun U => withinC_any _ _ _ U
  generalize wiC b 1 64 = y at *
  generalize naC a p.ins = x at *
  generalize p.parts.length = nparts at *
  generalize p.lines.length = nlines at *
  generalize p.ops.length = nops at *
  cases x with
  | false =>
    rw [Bool.false_and]
    go_enter Try.func48, Try.ntmps48
    go_upto_region 1 with fail
    generalize (W.alloc (.cells #[.int .i64 p.mem, .int .i64 p.cnt, .int .i64 p.ins, .int .i64 p.outs, .slice aP nparts cP, .slice aL nlines cL, .slice aO nops cO] 26)).alloc (.cells #[.int .u8 4, .int .i64 a, .int .i64 b] 53) = W1 at *
    go_wp2_with (first
      | (go_at_call 45; (with_reducible refine (N2.out _).mono ?_); rintro e w' ⟨rfl, hw'⟩; rw [hw']; clear hw' w')
      | (go_at_call 73; (with_reducible refine (N1.out _).mono ?_); rintro e w' ⟨rfl, hw'⟩; rw [hw']; clear hw' w'))
    go_ret
    exact ⟨rfl, B0.out⟩
  | true =>
    rw [Bool.true_and]
    go_enter Try.func48, Try.ntmps48
    go_upto_region 1 with fail
    generalize (W.alloc (.cells #[.int .i64 p.mem, .int .i64 p.cnt, .int .i64 p.ins, .int .i64 p.outs, .slice aP nparts cP, .slice aL nlines cL, .slice aO nops cO] 26)).alloc (.cells #[.int .u8 4, .int .i64 a, .int .i64 b] 53) = W1 at *
    go_wp2_with (first
      | (go_at_call 45; (with_reducible refine (N2.out _).mono ?_); rintro e w' ⟨rfl, hw'⟩; rw [hw']; clear hw' w')
      | (go_at_call 73; (with_reducible refine (N1.out _).mono ?_); rintro e w' ⟨rfl, hw'⟩; rw [hw']; clear hw' w'))
    go_ret
    exact ⟨rfl, B0.out⟩
set_option maxRecDepth 100000 in
set_option maxHeartbeats 2000000 in
theorem letsC_5 (p : PrgC) (a b : Int) (aP : Option Addr) (cP : Nat) (aL : Option Addr) (cL : Nat) (aO : Option Addr) (cO : Nat) (W : World) : Calls Try.prog 48 #[prgV p aP cP aL cL aO cO, .agg #[.int .u8 5, .int .i64 a, .int .i64 b]] W fun e w' => e = .returned (.bool (letsC p ⟨5, a, b⟩)) ∧ Below W.heap.size W w' := by
  have E : letsC p ⟨5, a, b⟩ = (naC a p.parts.length && decide (b = 0)) := rfl
  rw [E]
  clear E
  have b0 := (Below.refl W.heap.size W).alloc (Nat.le_refl _) (.cells #[.int .i64 p.mem, .int .i64 p.cnt, .int .i64 p.ins, .int .i64 p.outs, .slice aP p.parts.length cP, .slice aL p.lines.length cL, .slice aO p.ops.length cO] 26)
  have B0 := hiddenC (b0.alloc (by have := b0.size; omega) (.cells #[.int .u8 5, .int .i64 a, .int .i64 b] 53))
  have g0 := blkA_new 26 W #[.int .i64 p.mem, .int .i64 p.cnt, .int .i64 p.ins, .int .i64 p.outs, .slice aP p.parts.length cP, .slice aL p.lines.length cL, .slice aO p.ops.length cO]
  have G1 := hiddenC (blkA_new 53 (W.alloc (.cells #[.int .i64 p.mem, .int .i64 p.cnt, .int .i64 p.ins, .int .i64 p.outs, .slice aP p.parts.length cP, .slice aL p.lines.length cL, .slice aO p.ops.length cO] 26)) #[.int .u8 5, .int .i64 a, .int .i64 b])
  have G0 := hiddenC (g0.below ((Below.refl _ _).alloc (Nat.le_refl _) (.cells #[.int .u8 5, .int .i64 a, .int .i64 b] 53)))
  have hs : (W.alloc (.cells #[.int .i64 p.mem, .int .i64 p.cnt, .int .i64 p.ins, .int .i64 p.outs, .slice aP p.parts.length cP, .slice aL p.lines.length cL, .slice aO p.ops.length cO] 26)).heap.size = W.heap.size + 1 := World.size_alloc ..
  rw [hs] at G1
  have z0 := G0.out.cell (k := 0) rfl
  have z1 := G0.out.cell (k := 1) rfl
  have z2 := G0.out.cell (k := 2) rfl
  have z3 := G0.out.cell (k := 3) rfl
  have z4 := G0.out.cell (k := 4) rfl
  have z5 := G0.out.cell (k := 5) rfl
  have z6 := G0.out.cell (k := 6) rfl
  have y0 := G1.out.cell (k := 0) rfl
  have y1 := G1.out.cell (k := 1) rfl
  have y2 := G1.out.cell (k := 2) rfl
  simp only [List.getElem_toArray, List.getElem_cons_zero, List.getElem_cons_succ] at z0 z1 z2 z3 z4 z5 z6 y0 y1 y2
  clear hs G0 G1 b0 g0
  unfold prgV
  have N1 : Hid (∀ U, Calls Try.prog 73 #[.int .i64 a, .int .i64 (p.parts.length : Int)] U fun e w' => e = .returned (.bool (naC a (p.parts.length : Int))) ∧ w' = U) := fun U => namesC_any _ _ U
  generalize naC a (p.parts.length : Int) = x at *
  generalize p.parts.length = nparts at *
  generalize p.lines.length = nlines at *
  generalize p.ops.length = nops at *
  cases x with
  | false =>
    rw [Bool.false_and]
    go_enter Try.func48, Try.ntmps48
    go_upto_region 1 with fail
    generalize (W.alloc (.cells #[.int .i64 p.mem, .int .i64 p.cnt, .int .i64 p.ins, .int .i64 p.outs, .slice aP nparts cP, .slice aL nlines cL, .slice aO nops cO] 26)).alloc (.cells #[.int .u8 5, .int .i64 a, .int .i64 b] 53) = W1 at *
    go_wp2_with (first
      | (go_at_call 73; (with_reducible refine (N1.out _).mono ?_); rintro e w' ⟨rfl, hw'⟩; rw [hw']; clear hw' w'))
    go_ret
    exact ⟨rfl, B0.out⟩
  | true =>
    rw [Bool.true_and]
    by_cases hb : b = 0
    · subst hb
      rw [decide_eq_true rfl]
      go_enter Try.func48, Try.ntmps48
      go_upto_region 1 with fail
      generalize (W.alloc (.cells #[.int .i64 p.mem, .int .i64 p.cnt, .int .i64 p.ins, .int .i64 p.outs, .slice aP nparts cP, .slice aL nlines cL, .slice aO nops cO] 26)).alloc (.cells #[.int .u8 5, .int .i64 a, .int .i64 0] 53) = W1 at *
      go_wp2_with (first
        | (go_at_call 73; (with_reducible refine (N1.out _).mono ?_); rintro e w' ⟨rfl, hw'⟩; rw [hw']; clear hw' w'))
      go_ret
      exact ⟨rfl, B0.out⟩
    · rw [decide_eq_false hb]
      have qb : (b == 0) = false := by simpa using hb
      go_enter Try.func48, Try.ntmps48
      go_upto_region 1 with fail
      generalize (W.alloc (.cells #[.int .i64 p.mem, .int .i64 p.cnt, .int .i64 p.ins, .int .i64 p.outs, .slice aP nparts cP, .slice aL nlines cL, .slice aO nops cO] 26)).alloc (.cells #[.int .u8 5, .int .i64 a, .int .i64 b] 53) = W1 at *
      go_wp2_with (first
        | (go_at_call 73; (with_reducible refine (N1.out _).mono ?_); rintro e w' ⟨rfl, hw'⟩; rw [hw']; clear hw' w'))
      go_ret
      exact ⟨rfl, B0.out⟩
set_option maxRecDepth 100000 in
set_option maxHeartbeats 2000000 in
theorem letsC_6 (p : PrgC) (a b : Int) (aP : Option Addr) (cP : Nat) (aL : Option Addr) (cL : Nat) (aO : Option Addr) (cO : Nat) (W : World) : Calls Try.prog 48 #[prgV p aP cP aL cL aO cO, .agg #[.int .u8 6, .int .i64 a, .int .i64 b]] W fun e w' => e = .returned (.bool (letsC p ⟨6, a, b⟩)) ∧ Below W.heap.size W w' := by
  have E : letsC p ⟨6, a, b⟩ = (naC a p.lines.length && wiC b 1 64) := rfl
  rw [E]
  clear E
  have b0 := (Below.refl W.heap.size W).alloc (Nat.le_refl _) (.cells #[.int .i64 p.mem, .int .i64 p.cnt, .int .i64 p.ins, .int .i64 p.outs, .slice aP p.parts.length cP, .slice aL p.lines.length cL, .slice aO p.ops.length cO] 26)
  have B0 := hiddenC (b0.alloc (by have := b0.size; omega) (.cells #[.int .u8 6, .int .i64 a, .int .i64 b] 53))
  have g0 := blkA_new 26 W #[.int .i64 p.mem, .int .i64 p.cnt, .int .i64 p.ins, .int .i64 p.outs, .slice aP p.parts.length cP, .slice aL p.lines.length cL, .slice aO p.ops.length cO]
  have G1 := hiddenC (blkA_new 53 (W.alloc (.cells #[.int .i64 p.mem, .int .i64 p.cnt, .int .i64 p.ins, .int .i64 p.outs, .slice aP p.parts.length cP, .slice aL p.lines.length cL, .slice aO p.ops.length cO] 26)) #[.int .u8 6, .int .i64 a, .int .i64 b])
  have G0 := hiddenC (g0.below ((Below.refl _ _).alloc (Nat.le_refl _) (.cells #[.int .u8 6, .int .i64 a, .int .i64 b] 53)))
  have hs : (W.alloc (.cells #[.int .i64 p.mem, .int .i64 p.cnt, .int .i64 p.ins, .int .i64 p.outs, .slice aP p.parts.length cP, .slice aL p.lines.length cL, .slice aO p.ops.length cO] 26)).heap.size = W.heap.size + 1 := World.size_alloc ..
  rw [hs] at G1
  have z0 := G0.out.cell (k := 0) rfl
  have z1 := G0.out.cell (k := 1) rfl
  have z2 := G0.out.cell (k := 2) rfl
  have z3 := G0.out.cell (k := 3) rfl
  have z4 := G0.out.cell (k := 4) rfl
  have z5 := G0.out.cell (k := 5) rfl
  have z6 := G0.out.cell (k := 6) rfl
  have y0 := G1.out.cell (k := 0) rfl
  have y1 := G1.out.cell (k := 1) rfl
  have y2 := G1.out.cell (k := 2) rfl
  simp only [List.getElem_toArray, List.getElem_cons_zero, List.getElem_cons_succ] at z0 z1 z2 z3 z4 z5 z6 y0 y1 y2
  clear hs G0 G1 b0 g0
  unfold prgV
  have N1 : Hid (∀ U, Calls Try.prog 73 #[.int .i64 a, .int .i64 (p.lines.length : Int)] U fun e w' => e = .returned (.bool (naC a (p.lines.length : Int))) ∧ w' = U) := fun U => namesC_any _ _ U
  have N2 : Hid (∀ U, Calls Try.prog 45 #[.int .i64 b, .int .i64 1, .int .i64 64] U fun e w' => e = .returned (.bool (wiC b 1 64)) ∧ w' = U) := fun U => withinC_any _ _ _ U
  generalize wiC b 1 64 = y at *
  generalize naC a (p.lines.length : Int) = x at *
  generalize p.parts.length = nparts at *
  generalize p.lines.length = nlines at *
  generalize p.ops.length = nops at *
  cases x with
  | false =>
    rw [Bool.false_and]
    go_enter Try.func48, Try.ntmps48
    go_upto_region 1 with fail
    generalize (W.alloc (.cells #[.int .i64 p.mem, .int .i64 p.cnt, .int .i64 p.ins, .int .i64 p.outs, .slice aP nparts cP, .slice aL nlines cL, .slice aO nops cO] 26)).alloc (.cells #[.int .u8 6, .int .i64 a, .int .i64 b] 53) = W1 at *
    go_wp2_with (first
      | (go_at_call 45; (with_reducible refine (N2.out _).mono ?_); rintro e w' ⟨rfl, hw'⟩; rw [hw']; clear hw' w')
      | (go_at_call 73; (with_reducible refine (N1.out _).mono ?_); rintro e w' ⟨rfl, hw'⟩; rw [hw']; clear hw' w'))
    go_ret
    exact ⟨rfl, B0.out⟩
  | true =>
    rw [Bool.true_and]
    go_enter Try.func48, Try.ntmps48
    go_upto_region 1 with fail
    generalize (W.alloc (.cells #[.int .i64 p.mem, .int .i64 p.cnt, .int .i64 p.ins, .int .i64 p.outs, .slice aP nparts cP, .slice aL nlines cL, .slice aO nops cO] 26)).alloc (.cells #[.int .u8 6, .int .i64 a, .int .i64 b] 53) = W1 at *
    go_wp2_with (first
      | (go_at_call 45; (with_reducible refine (N2.out _).mono ?_); rintro e w' ⟨rfl, hw'⟩; rw [hw']; clear hw' w')
      | (go_at_call 73; (with_reducible refine (N1.out _).mono ?_); rintro e w' ⟨rfl, hw'⟩; rw [hw']; clear hw' w'))
    go_ret
    exact ⟨rfl, B0.out⟩
set_option maxRecDepth 100000 in
set_option maxHeartbeats 2000000 in
theorem letsC_7 (p : PrgC) (a b : Int) (aP : Option Addr) (cP : Nat) (aL : Option Addr) (cL : Nat) (aO : Option Addr) (cO : Nat) (W : World) : Calls Try.prog 48 #[prgV p aP cP aL cL aO cO, .agg #[.int .u8 7, .int .i64 a, .int .i64 b]] W fun e w' => e = .returned (.bool (letsC p ⟨7, a, b⟩)) ∧ Below W.heap.size W w' := by
  have E : letsC p ⟨7, a, b⟩ = (naC a p.outs && wiC b 1 64) := rfl
  rw [E]
  clear E
  have b0 := (Below.refl W.heap.size W).alloc (Nat.le_refl _) (.cells #[.int .i64 p.mem, .int .i64 p.cnt, .int .i64 p.ins, .int .i64 p.outs, .slice aP p.parts.length cP, .slice aL p.lines.length cL, .slice aO p.ops.length cO] 26)
  have B0 := hiddenC (b0.alloc (by have := b0.size; omega) (.cells #[.int .u8 7, .int .i64 a, .int .i64 b] 53))
  have g0 := blkA_new 26 W #[.int .i64 p.mem, .int .i64 p.cnt, .int .i64 p.ins, .int .i64 p.outs, .slice aP p.parts.length cP, .slice aL p.lines.length cL, .slice aO p.ops.length cO]
  have G1 := hiddenC (blkA_new 53 (W.alloc (.cells #[.int .i64 p.mem, .int .i64 p.cnt, .int .i64 p.ins, .int .i64 p.outs, .slice aP p.parts.length cP, .slice aL p.lines.length cL, .slice aO p.ops.length cO] 26)) #[.int .u8 7, .int .i64 a, .int .i64 b])
  have G0 := hiddenC (g0.below ((Below.refl _ _).alloc (Nat.le_refl _) (.cells #[.int .u8 7, .int .i64 a, .int .i64 b] 53)))
  have hs : (W.alloc (.cells #[.int .i64 p.mem, .int .i64 p.cnt, .int .i64 p.ins, .int .i64 p.outs, .slice aP p.parts.length cP, .slice aL p.lines.length cL, .slice aO p.ops.length cO] 26)).heap.size = W.heap.size + 1 := World.size_alloc ..
  rw [hs] at G1
  have z0 := G0.out.cell (k := 0) rfl
  have z1 := G0.out.cell (k := 1) rfl
  have z2 := G0.out.cell (k := 2) rfl
  have z3 := G0.out.cell (k := 3) rfl
  have z4 := G0.out.cell (k := 4) rfl
  have z5 := G0.out.cell (k := 5) rfl
  have z6 := G0.out.cell (k := 6) rfl
  have y0 := G1.out.cell (k := 0) rfl
  have y1 := G1.out.cell (k := 1) rfl
  have y2 := G1.out.cell (k := 2) rfl
  simp only [List.getElem_toArray, List.getElem_cons_zero, List.getElem_cons_succ] at z0 z1 z2 z3 z4 z5 z6 y0 y1 y2
  clear hs G0 G1 b0 g0
  unfold prgV
  have N1 : Hid (∀ U, Calls Try.prog 73 #[.int .i64 a, .int .i64 p.outs] U fun e w' => e = .returned (.bool (naC a p.outs)) ∧ w' = U) := fun U => namesC_any _ _ U
  have N2 : Hid (∀ U, Calls Try.prog 45 #[.int .i64 b, .int .i64 1, .int .i64 64] U fun e w' => e = .returned (.bool (wiC b 1 64)) ∧ w' = U) := fun U => withinC_any _ _ _ U
  generalize wiC b 1 64 = y at *
  generalize naC a p.outs = x at *
  generalize p.parts.length = nparts at *
  generalize p.lines.length = nlines at *
  generalize p.ops.length = nops at *
  cases x with
  | false =>
    rw [Bool.false_and]
    go_enter Try.func48, Try.ntmps48
    go_upto_region 1 with fail
    generalize (W.alloc (.cells #[.int .i64 p.mem, .int .i64 p.cnt, .int .i64 p.ins, .int .i64 p.outs, .slice aP nparts cP, .slice aL nlines cL, .slice aO nops cO] 26)).alloc (.cells #[.int .u8 7, .int .i64 a, .int .i64 b] 53) = W1 at *
    go_wp2_with (first
      | (go_at_call 45; (with_reducible refine (N2.out _).mono ?_); rintro e w' ⟨rfl, hw'⟩; rw [hw']; clear hw' w')
      | (go_at_call 73; (with_reducible refine (N1.out _).mono ?_); rintro e w' ⟨rfl, hw'⟩; rw [hw']; clear hw' w'))
    go_ret
    exact ⟨rfl, B0.out⟩
  | true =>
    rw [Bool.true_and]
    go_enter Try.func48, Try.ntmps48
    go_upto_region 1 with fail
    generalize (W.alloc (.cells #[.int .i64 p.mem, .int .i64 p.cnt, .int .i64 p.ins, .int .i64 p.outs, .slice aP nparts cP, .slice aL nlines cL, .slice aO nops cO] 26)).alloc (.cells #[.int .u8 7, .int .i64 a, .int .i64 b] 53) = W1 at *
    go_wp2_with (first
      | (go_at_call 45; (with_reducible refine (N2.out _).mono ?_); rintro e w' ⟨rfl, hw'⟩; rw [hw']; clear hw' w')
      | (go_at_call 73; (with_reducible refine (N1.out _).mono ?_); rintro e w' ⟨rfl, hw'⟩; rw [hw']; clear hw' w'))
    go_ret
    exact ⟨rfl, B0.out⟩
set_option maxRecDepth 100000 in
set_option maxHeartbeats 2000000 in
theorem letsC_0 (p : PrgC) (a b : Int) (aP : Option Addr) (cP : Nat) (aL : Option Addr) (cL : Nat) (aO : Option Addr) (cO : Nat) (W : World) : Calls Try.prog 48 #[prgV p aP cP aL cL aO cO, .agg #[.int .u8 0, .int .i64 a, .int .i64 b]] W fun e w' => e = .returned (.bool (letsC p ⟨0, a, b⟩)) ∧ Below W.heap.size W w' := by
  have E : letsC p ⟨0, a, b⟩ = (decide (a = 0) && decide (b = 0)) := rfl
  rw [E]
  clear E
  have b0 := (Below.refl W.heap.size W).alloc (Nat.le_refl _) (.cells #[.int .i64 p.mem, .int .i64 p.cnt, .int .i64 p.ins, .int .i64 p.outs, .slice aP p.parts.length cP, .slice aL p.lines.length cL, .slice aO p.ops.length cO] 26)
  have B0 := hiddenC (b0.alloc (by have := b0.size; omega) (.cells #[.int .u8 0, .int .i64 a, .int .i64 b] 53))
  have g0 := blkA_new 26 W #[.int .i64 p.mem, .int .i64 p.cnt, .int .i64 p.ins, .int .i64 p.outs, .slice aP p.parts.length cP, .slice aL p.lines.length cL, .slice aO p.ops.length cO]
  have G1 := hiddenC (blkA_new 53 (W.alloc (.cells #[.int .i64 p.mem, .int .i64 p.cnt, .int .i64 p.ins, .int .i64 p.outs, .slice aP p.parts.length cP, .slice aL p.lines.length cL, .slice aO p.ops.length cO] 26)) #[.int .u8 0, .int .i64 a, .int .i64 b])
  have G0 := hiddenC (g0.below ((Below.refl _ _).alloc (Nat.le_refl _) (.cells #[.int .u8 0, .int .i64 a, .int .i64 b] 53)))
  have hs : (W.alloc (.cells #[.int .i64 p.mem, .int .i64 p.cnt, .int .i64 p.ins, .int .i64 p.outs, .slice aP p.parts.length cP, .slice aL p.lines.length cL, .slice aO p.ops.length cO] 26)).heap.size = W.heap.size + 1 := World.size_alloc ..
  rw [hs] at G1
  have z0 := G0.out.cell (k := 0) rfl
  have z1 := G0.out.cell (k := 1) rfl
  have z2 := G0.out.cell (k := 2) rfl
  have z3 := G0.out.cell (k := 3) rfl
  have z4 := G0.out.cell (k := 4) rfl
  have z5 := G0.out.cell (k := 5) rfl
  have z6 := G0.out.cell (k := 6) rfl
  have y0 := G1.out.cell (k := 0) rfl
  have y1 := G1.out.cell (k := 1) rfl
  have y2 := G1.out.cell (k := 2) rfl
  simp only [List.getElem_toArray, List.getElem_cons_zero, List.getElem_cons_succ] at z0 z1 z2 z3 z4 z5 z6 y0 y1 y2
  clear hs G0 G1 b0 g0
  unfold prgV
  generalize p.parts.length = nparts at *
  generalize p.lines.length = nlines at *
  generalize p.ops.length = nops at *
  by_cases ha : a = 0
  · rw [decide_eq_true ha, Bool.true_and]
    have qa : (a == 0) = true := by simpa using ha
    clear ha
    by_cases hb : b = 0
    · rw [decide_eq_true hb]
      have qb : (b == 0) = true := by simpa using hb
      clear hb
      go_enter Try.func48, Try.ntmps48
      go_upto_region 1 with fail
      generalize (W.alloc (.cells #[.int .i64 p.mem, .int .i64 p.cnt, .int .i64 p.ins, .int .i64 p.outs, .slice aP nparts cP, .slice aL nlines cL, .slice aO nops cO] 26)).alloc (.cells #[.int .u8 0, .int .i64 a, .int .i64 b] 53) = W1 at *
      go_wp2
      go_ret
      exact ⟨rfl, B0.out⟩
    · rw [decide_eq_false hb]
      have qb : (b == 0) = false := by simpa using hb
      clear hb
      go_enter Try.func48, Try.ntmps48
      go_upto_region 1 with fail
      generalize (W.alloc (.cells #[.int .i64 p.mem, .int .i64 p.cnt, .int .i64 p.ins, .int .i64 p.outs, .slice aP nparts cP, .slice aL nlines cL, .slice aO nops cO] 26)).alloc (.cells #[.int .u8 0, .int .i64 a, .int .i64 b] 53) = W1 at *
      go_wp2
      go_ret
      exact ⟨rfl, B0.out⟩
  · rw [decide_eq_false ha, Bool.false_and]
    have qa : (a == 0) = false := by simpa using ha
    clear ha
    go_enter Try.func48, Try.ntmps48
    go_upto_region 1 with fail
    generalize (W.alloc (.cells #[.int .i64 p.mem, .int .i64 p.cnt, .int .i64 p.ins, .int .i64 p.outs, .slice aP nparts cP, .slice aL nlines cL, .slice aO nops cO] 26)).alloc (.cells #[.int .u8 0, .int .i64 a, .int .i64 b] 53) = W1 at *
    go_wp2
    go_ret
    exact ⟨rfl, B0.out⟩
set_option maxRecDepth 100000 in
set_option maxHeartbeats 2000000 in
theorem letsC_8 (z : Int) (hz : 8 ≤ z) (p : PrgC) (a b : Int) (aP : Option Addr) (cP : Nat) (aL : Option Addr) (cL : Nat) (aO : Option Addr) (cO : Nat) (W : World) : Calls Try.prog 48 #[prgV p aP cP aL cL aO cO, .agg #[.int .u8 z, .int .i64 a, .int .i64 b]] W fun e w' => e = .returned (.bool (false)) ∧ Below W.heap.size W w' := by
  have b0 := (Below.refl W.heap.size W).alloc (Nat.le_refl _) (.cells #[.int .i64 p.mem, .int .i64 p.cnt, .int .i64 p.ins, .int .i64 p.outs, .slice aP p.parts.length cP, .slice aL p.lines.length cL, .slice aO p.ops.length cO] 26)
  have B0 := hiddenC (b0.alloc (by have := b0.size; omega) (.cells #[.int .u8 z, .int .i64 a, .int .i64 b] 53))
  have g0 := blkA_new 26 W #[.int .i64 p.mem, .int .i64 p.cnt, .int .i64 p.ins, .int .i64 p.outs, .slice aP p.parts.length cP, .slice aL p.lines.length cL, .slice aO p.ops.length cO]
  have G1 := hiddenC (blkA_new 53 (W.alloc (.cells #[.int .i64 p.mem, .int .i64 p.cnt, .int .i64 p.ins, .int .i64 p.outs, .slice aP p.parts.length cP, .slice aL p.lines.length cL, .slice aO p.ops.length cO] 26)) #[.int .u8 z, .int .i64 a, .int .i64 b])
  have G0 := hiddenC (g0.below ((Below.refl _ _).alloc (Nat.le_refl _) (.cells #[.int .u8 z, .int .i64 a, .int .i64 b] 53)))
  have hs : (W.alloc (.cells #[.int .i64 p.mem, .int .i64 p.cnt, .int .i64 p.ins, .int .i64 p.outs, .slice aP p.parts.length cP, .slice aL p.lines.length cL, .slice aO p.ops.length cO] 26)).heap.size = W.heap.size + 1 := World.size_alloc ..
  rw [hs] at G1
  have z0 := G0.out.cell (k := 0) rfl
  have z1 := G0.out.cell (k := 1) rfl
  have z2 := G0.out.cell (k := 2) rfl
  have z3 := G0.out.cell (k := 3) rfl
  have z4 := G0.out.cell (k := 4) rfl
  have z5 := G0.out.cell (k := 5) rfl
  have z6 := G0.out.cell (k := 6) rfl
  have y0 := G1.out.cell (k := 0) rfl
  have y1 := G1.out.cell (k := 1) rfl
  have y2 := G1.out.cell (k := 2) rfl
  simp only [List.getElem_toArray, List.getElem_cons_zero, List.getElem_cons_succ] at z0 z1 z2 z3 z4 z5 z6 y0 y1 y2
  clear hs G0 G1 b0 g0
  unfold prgV
  generalize p.parts.length = nparts at *
  generalize p.lines.length = nlines at *
  generalize p.ops.length = nops at *
  have x0 : (z == 0) = false := by simp; omega
  have x1 : (z == 1) = false := by simp; omega
  have x2 : (z == 2) = false := by simp; omega
  have x3 : (z == 3) = false := by simp; omega
  have x4 : (z == 4) = false := by simp; omega
  have x5 : (z == 5) = false := by simp; omega
  have x6 : (z == 6) = false := by simp; omega
  have x7 : (z == 7) = false := by simp; omega
  clear hz
  go_enter Try.func48, Try.ntmps48
  go_upto_region 1 with fail
  generalize (W.alloc (.cells #[.int .i64 p.mem, .int .i64 p.cnt, .int .i64 p.ins, .int .i64 p.outs, .slice aP nparts cP, .slice aL nlines cL, .slice aO nops cO] 26)).alloc (.cells #[.int .u8 z, .int .i64 a, .int .i64 b] 53) = W1 at *
  go_wp2
  go_ret
  exact ⟨rfl, B0.out⟩
theorem letsC_any (p : PrgC) (q : OpC) (aP : Option Addr) (cP : Nat) (aL : Option Addr) (cL : Nat) (aO : Option Addr) (cO : Nat) (W : World) : Calls Try.prog 48 #[prgV p aP cP aL cL aO cO, .agg (opV q).toArray] W fun e w' => e = .returned (.bool (letsC p q)) ∧ Below W.heap.size W w' := by
  obtain ⟨k, a, b⟩ := q
  match k with
  | 0 => exact letsC_0 p a b aP cP aL cL aO cO W
  | 1 => exact letsC_1 p a b aP cP aL cL aO cO W
  | 2 => exact letsC_2 p a b aP cP aL cL aO cO W
  | 3 => exact letsC_3 p a b aP cP aL cL aO cO W
  | 4 => exact letsC_4 p a b aP cP aL cL aO cO W
  | 5 => exact letsC_5 p a b aP cP aL cL aO cO W
  | 6 => exact letsC_6 p a b aP cP aL cL aO cO W
  | 7 => exact letsC_7 p a b aP cP aL cL aO cO W
  | k + 8 => exact letsC_8 ((k + 8 : Nat) : Int) (by omega) p a b aP cP aL cL aO cO W
set_option maxRecDepth 100000 in
set_option maxHeartbeats 4000000 in
theorem limitsC_any (p : PrgC) (aP : Option Addr) (cP : Nat) (aL : Option Addr) (cL : Nat) (aO : Option Addr) (cO : Nat) (W : World) : Calls Try.prog 27 #[prgV p aP cP aL cL aO cO] W fun e w' => e = .returned (.int .i64 (limC p)) ∧ Below W.heap.size W w' := by
  unfold prgV
  have E : limC p = if wiC p.mem 0 1024 && (wiC p.cnt 0 17 && (wiC p.ins 0 16 && wiC p.outs 0 16)) then (if 32 < p.parts.length ∨ 96 < p.lines.length ∨ 131072 < p.ops.length then 81 else 0) else 1 := rfl
  rw [E]
  clear E
  have N1 : Hid (∀ U, Calls Try.prog 45 #[.int .i64 p.mem, .int .i64 0, .int .i64 1024] U fun e w' => e = .returned (.bool (wiC p.mem 0 1024)) ∧ w' = U) := fun U => withinC_any _ _ _ U
  have N2 : Hid (∀ U, Calls Try.prog 45 #[.int .i64 p.cnt, .int .i64 0, .int .i64 17] U fun e w' => e = .returned (.bool (wiC p.cnt 0 17)) ∧ w' = U) := fun U => withinC_any _ _ _ U
  have N3 : Hid (∀ U, Calls Try.prog 45 #[.int .i64 p.ins, .int .i64 0, .int .i64 16] U fun e w' => e = .returned (.bool (wiC p.ins 0 16)) ∧ w' = U) := fun U => withinC_any _ _ _ U
  have N4 : Hid (∀ U, Calls Try.prog 45 #[.int .i64 p.outs, .int .i64 0, .int .i64 16] U fun e w' => e = .returned (.bool (wiC p.outs 0 16)) ∧ w' = U) := fun U => withinC_any _ _ _ U
  generalize wiC p.mem 0 1024 = x1 at *
  generalize wiC p.cnt 0 17 = x2 at *
  generalize wiC p.ins 0 16 = x3 at *
  generalize wiC p.outs 0 16 = x4 at *
  generalize p.parts.length = nparts at *
  generalize p.lines.length = nlines at *
  generalize p.ops.length = nops at *
  have B0 := hiddenC ((Below.refl W.heap.size W).alloc (Nat.le_refl _) (.cells #[.int .i64 p.mem, .int .i64 p.cnt, .int .i64 p.ins, .int .i64 p.outs, .slice aP nparts cP, .slice aL nlines cL, .slice aO nops cO] 26))
  have G0 := hiddenC (blkA_new 26 W #[.int .i64 p.mem, .int .i64 p.cnt, .int .i64 p.ins, .int .i64 p.outs, .slice aP nparts cP, .slice aL nlines cL, .slice aO nops cO])
  have z0 := G0.out.cell (k := 0) rfl
  have z1 := G0.out.cell (k := 1) rfl
  have z2 := G0.out.cell (k := 2) rfl
  have z3 := G0.out.cell (k := 3) rfl
  have z4 := G0.out.cell (k := 4) rfl
  have z5 := G0.out.cell (k := 5) rfl
  have z6 := G0.out.cell (k := 6) rfl
  simp only [List.getElem_toArray, List.getElem_cons_zero, List.getElem_cons_succ] at z0 z1 z2 z3 z4 z5 z6
  clear G0
  cases x1 with
  | false =>
    rw [if_neg (by simp)]
    go_enter Try.func27, Try.ntmps27
    go_upto_region 1 with fail
    generalize W.alloc (.cells #[.int .i64 p.mem, .int .i64 p.cnt, .int .i64 p.ins, .int .i64 p.outs, .slice aP nparts cP, .slice aL nlines cL, .slice aO nops cO] 26) = W1 at *
    go_wp2_with (first
      | (go_at_call 45; (with_reducible refine (N4.out _).mono ?_); rintro e w' ⟨rfl, hw'⟩; rw [hw']; clear hw' w')
      | (go_at_call 45; (with_reducible refine (N3.out _).mono ?_); rintro e w' ⟨rfl, hw'⟩; rw [hw']; clear hw' w')
      | (go_at_call 45; (with_reducible refine (N2.out _).mono ?_); rintro e w' ⟨rfl, hw'⟩; rw [hw']; clear hw' w')
      | (go_at_call 45; (with_reducible refine (N1.out _).mono ?_); rintro e w' ⟨rfl, hw'⟩; rw [hw']; clear hw' w'))
    go_ret
    exact ⟨rfl, B0.out⟩
  | true =>
    cases x2 with
    | false =>
      rw [if_neg (by simp)]
      go_enter Try.func27, Try.ntmps27
      go_upto_region 1 with fail
      generalize W.alloc (.cells #[.int .i64 p.mem, .int .i64 p.cnt, .int .i64 p.ins, .int .i64 p.outs, .slice aP nparts cP, .slice aL nlines cL, .slice aO nops cO] 26) = W1 at *
      go_wp2_with (first
        | (go_at_call 45; (with_reducible refine (N4.out _).mono ?_); rintro e w' ⟨rfl, hw'⟩; rw [hw']; clear hw' w')
        | (go_at_call 45; (with_reducible refine (N3.out _).mono ?_); rintro e w' ⟨rfl, hw'⟩; rw [hw']; clear hw' w')
        | (go_at_call 45; (with_reducible refine (N2.out _).mono ?_); rintro e w' ⟨rfl, hw'⟩; rw [hw']; clear hw' w')
        | (go_at_call 45; (with_reducible refine (N1.out _).mono ?_); rintro e w' ⟨rfl, hw'⟩; rw [hw']; clear hw' w'))
      go_ret
      exact ⟨rfl, B0.out⟩
    | true =>
      cases x3 with
      | false =>
        rw [if_neg (by simp)]
        go_enter Try.func27, Try.ntmps27
        go_upto_region 1 with fail
        generalize W.alloc (.cells #[.int .i64 p.mem, .int .i64 p.cnt, .int .i64 p.ins, .int .i64 p.outs, .slice aP nparts cP, .slice aL nlines cL, .slice aO nops cO] 26) = W1 at *
        go_wp2_with (first
          | (go_at_call 45; (with_reducible refine (N4.out _).mono ?_); rintro e w' ⟨rfl, hw'⟩; rw [hw']; clear hw' w')
          | (go_at_call 45; (with_reducible refine (N3.out _).mono ?_); rintro e w' ⟨rfl, hw'⟩; rw [hw']; clear hw' w')
          | (go_at_call 45; (with_reducible refine (N2.out _).mono ?_); rintro e w' ⟨rfl, hw'⟩; rw [hw']; clear hw' w')
          | (go_at_call 45; (with_reducible refine (N1.out _).mono ?_); rintro e w' ⟨rfl, hw'⟩; rw [hw']; clear hw' w'))
        go_ret
        exact ⟨rfl, B0.out⟩
      | true =>
        cases x4 with
        | false =>
          rw [if_neg (by simp)]
          go_enter Try.func27, Try.ntmps27
          go_upto_region 1 with fail
          generalize W.alloc (.cells #[.int .i64 p.mem, .int .i64 p.cnt, .int .i64 p.ins, .int .i64 p.outs, .slice aP nparts cP, .slice aL nlines cL, .slice aO nops cO] 26) = W1 at *
          go_wp2_with (first
            | (go_at_call 45; (with_reducible refine (N4.out _).mono ?_); rintro e w' ⟨rfl, hw'⟩; rw [hw']; clear hw' w')
            | (go_at_call 45; (with_reducible refine (N3.out _).mono ?_); rintro e w' ⟨rfl, hw'⟩; rw [hw']; clear hw' w')
            | (go_at_call 45; (with_reducible refine (N2.out _).mono ?_); rintro e w' ⟨rfl, hw'⟩; rw [hw']; clear hw' w')
            | (go_at_call 45; (with_reducible refine (N1.out _).mono ?_); rintro e w' ⟨rfl, hw'⟩; rw [hw']; clear hw' w'))
          go_ret
          exact ⟨rfl, B0.out⟩
        | true =>
          rw [if_pos (by decide)]
          by_cases h1 : 32 < nparts
          · rw [if_pos (by omega)]
            have qh1 : (nparts : Int) > 32 := by omega
            clear h1
            go_enter Try.func27, Try.ntmps27
            go_upto_region 1 with fail
            generalize W.alloc (.cells #[.int .i64 p.mem, .int .i64 p.cnt, .int .i64 p.ins, .int .i64 p.outs, .slice aP nparts cP, .slice aL nlines cL, .slice aO nops cO] 26) = W1 at *
            go_wp2_with (first
              | (go_at_call 45; (with_reducible refine (N4.out _).mono ?_); rintro e w' ⟨rfl, hw'⟩; rw [hw']; clear hw' w')
              | (go_at_call 45; (with_reducible refine (N3.out _).mono ?_); rintro e w' ⟨rfl, hw'⟩; rw [hw']; clear hw' w')
              | (go_at_call 45; (with_reducible refine (N2.out _).mono ?_); rintro e w' ⟨rfl, hw'⟩; rw [hw']; clear hw' w')
              | (go_at_call 45; (with_reducible refine (N1.out _).mono ?_); rintro e w' ⟨rfl, hw'⟩; rw [hw']; clear hw' w'))
            go_ret
            exact ⟨rfl, B0.out⟩
          · have qh1 : ¬ (nparts : Int) > 32 := by omega
            by_cases h2 : 96 < nlines
            · rw [if_pos (by omega)]
              have qh2 : (nlines : Int) > 96 := by omega
              clear h2
              go_enter Try.func27, Try.ntmps27
              go_upto_region 1 with fail
              generalize W.alloc (.cells #[.int .i64 p.mem, .int .i64 p.cnt, .int .i64 p.ins, .int .i64 p.outs, .slice aP nparts cP, .slice aL nlines cL, .slice aO nops cO] 26) = W1 at *
              go_wp2_with (first
                | (go_at_call 45; (with_reducible refine (N4.out _).mono ?_); rintro e w' ⟨rfl, hw'⟩; rw [hw']; clear hw' w')
                | (go_at_call 45; (with_reducible refine (N3.out _).mono ?_); rintro e w' ⟨rfl, hw'⟩; rw [hw']; clear hw' w')
                | (go_at_call 45; (with_reducible refine (N2.out _).mono ?_); rintro e w' ⟨rfl, hw'⟩; rw [hw']; clear hw' w')
                | (go_at_call 45; (with_reducible refine (N1.out _).mono ?_); rintro e w' ⟨rfl, hw'⟩; rw [hw']; clear hw' w'))
              go_ret
              exact ⟨rfl, B0.out⟩
            · have qh2 : ¬ (nlines : Int) > 96 := by omega
              by_cases h3 : 131072 < nops
              · rw [if_pos (by omega)]
                have qh3 : (nops : Int) > 131072 := by omega
                clear h3
                go_enter Try.func27, Try.ntmps27
                go_upto_region 1 with fail
                generalize W.alloc (.cells #[.int .i64 p.mem, .int .i64 p.cnt, .int .i64 p.ins, .int .i64 p.outs, .slice aP nparts cP, .slice aL nlines cL, .slice aO nops cO] 26) = W1 at *
                go_wp2_with (first
                  | (go_at_call 45; (with_reducible refine (N4.out _).mono ?_); rintro e w' ⟨rfl, hw'⟩; rw [hw']; clear hw' w')
                  | (go_at_call 45; (with_reducible refine (N3.out _).mono ?_); rintro e w' ⟨rfl, hw'⟩; rw [hw']; clear hw' w')
                  | (go_at_call 45; (with_reducible refine (N2.out _).mono ?_); rintro e w' ⟨rfl, hw'⟩; rw [hw']; clear hw' w')
                  | (go_at_call 45; (with_reducible refine (N1.out _).mono ?_); rintro e w' ⟨rfl, hw'⟩; rw [hw']; clear hw' w'))
                go_ret
                exact ⟨rfl, B0.out⟩
              · have qh3 : ¬ (nops : Int) > 131072 := by omega
                rw [if_neg (by omega)]
                clear h1 h2 h3
                go_enter Try.func27, Try.ntmps27
                go_upto_region 1 with fail
                generalize W.alloc (.cells #[.int .i64 p.mem, .int .i64 p.cnt, .int .i64 p.ins, .int .i64 p.outs, .slice aP nparts cP, .slice aL nlines cL, .slice aO nops cO] 26) = W1 at *
                go_wp2_with (first
                  | (go_at_call 45; (with_reducible refine (N4.out _).mono ?_); rintro e w' ⟨rfl, hw'⟩; rw [hw']; clear hw' w')
                  | (go_at_call 45; (with_reducible refine (N3.out _).mono ?_); rintro e w' ⟨rfl, hw'⟩; rw [hw']; clear hw' w')
                  | (go_at_call 45; (with_reducible refine (N2.out _).mono ?_); rintro e w' ⟨rfl, hw'⟩; rw [hw']; clear hw' w')
                  | (go_at_call 45; (with_reducible refine (N1.out _).mono ?_); rintro e w' ⟨rfl, hw'⟩; rw [hw']; clear hw' w'))
                go_ret
                exact ⟨rfl, B0.out⟩
def codeS (t : Nat) (zs : List Int) : Int := (ofS t zs).2.2
set_option maxRecDepth 100000 in
set_option maxHeartbeats 4000000 in
theorem partsC_any (aP : Option Addr) (n cP : Nat) (LP : List (PrtC × (Option Addr × Nat))) (W : World) (hA : AtV prtV 2 W aP LP) (hP : ∀ x ∈ LP, At W x.2.1 x.1.ps) (ht : ∀ x ∈ LP, x.1.tag < 256) (hl : LP.length = n) (hn : n ≤ 1000000) :
    Calls Try.prog 28 #[.slice aP n cP] W fun e w' => e = .returned (.int .i64 (partsC codeS (LP.map Prod.fst))) ∧ Below W.heap.size W w' := by
  obtain ⟨PE, hPE⟩ : ∃ Q : Ending → World → Prop, (fun e w' => e = .returned (.int .i64 (partsC codeS (LP.map Prod.fst))) ∧ Below W.heap.size W w') = Q := ⟨_, rfl⟩
  rw [hPE]
  have HPE := hiddenC hPE
  have HA := hiddenC hA
  have HP := hiddenC hP
  have HT := hiddenC ht
  have HL := hiddenC hl
  clear hPE hA hP ht hl
  go_enter Try.func28, Try.ntmps28
  go_wp2
  go_loopg [10] n (fun gk u wr => ∃ k : Nat, k ≤ n ∧ gk = n - k ∧ u = .int .i64 (k : Int) ∧ partsC codeS ((LP.drop k).map Prod.fst) = partsC codeS (LP.map Prod.fst) ∧ Below W.heap.size W wr)
  case atStart => exact ⟨0, Nat.zero_le _, rfl, rfl, rfl, Below.refl _ _⟩
  case round =>
    obtain ⟨k, hk, rfl, rfl, hr, hB⟩ := hrel
    have HR := hiddenC hr
    have HB := hiddenC hB
    clear hr hB
    by_cases hlt : k < n
    · have hki : (k : Int) < (n : Int) := by omega
      have hkL : k < LP.length := by rw [HL.out]; exact hlt
      rcases HA.out.below HB.out with e1 | ⟨ab, off, rfl, hc⟩
      · rw [e1] at hkL; exact absurd hkL (Nat.not_lt_zero _)
      have hg : LP[k]? = some LP[k] := List.getElem?_eq_getElem hkL
      have hm : LP[k] ∈ LP := List.getElem_mem hkL
      have c0 := hc k _ hg 0 _ rfl
      have c1 := hc k _ hg 1 _ rfl
      have AP := hiddenC ((HP.out _ hm).below HB.out)
      have ht := HT.out _ hm
      have RE : Hid (partsC codeS (LP[k].1 :: (LP.drop (k + 1)).map Prod.fst) = partsC codeS (LP.map Prod.fst)) := by
        have q := HR.out
        rw [List.drop_eq_getElem_cons hkL, List.map_cons] at q
        exact q
      obtain ⟨x, hx⟩ : ∃ x, LP[k] = x := ⟨_, rfl⟩
      rw [hx] at c0 c1 RE ht AP
      clear hc hg hm HR hx
      obtain ⟨⟨t, zs⟩, a, c⟩ := x
      simp only [Nat.add_zero] at c0 c1 AP ht
      have CO := hiddenC (fun (U : World) (hb : Below wr.heap.size wr U) => shapeOf_any t a zs zs.length c U (by omega) rfl (AP.out.below hb))
      have RC : Hid (codeS t zs = (ofS t zs).2.2) := rfl
      obtain ⟨r, hr⟩ : ∃ r, ofS t zs = r := ⟨_, rfl⟩
      rw [hr] at CO RC
      have RE2 : Hid (partsC codeS (LP.map Prod.fst) = if codeS t zs = 0 then partsC codeS ((LP.drop (k + 1)).map Prod.fst) else codeS t zs) := RE.out.symm
      rw [RC.out] at RE2
      obtain ⟨r1, r2, r3⟩ := r
      simp only at RE2
      generalize zs.length = nz at *
      clear RE RC hr AP ht
      have b1 : Hid (Below wr.heap.size wr (wr.alloc (.cells #[.int .u8 (t : Int), .slice a nz c] 45))) := (Below.refl _ _).alloc (Nat.le_refl _) _
      have CO1 := hiddenC (CO.out _ b1.out)
      have HB1 := hiddenC (HB.out.trans (b1.out.mono HB.out.size))
      have G0 := hiddenC (blkA_new 45 wr #[.int .u8 (t : Int), .slice a nz c])
      clear CO
      go_upto_region 4 with fail
      generalize wr.alloc (.cells #[.int .u8 (t : Int), .slice a nz c] 45) = W2 at *
      have z0 := G0.out.cell (k := 0) rfl
      have z1 := G0.out.cell (k := 1) rfl
      simp only [List.getElem_toArray, List.getElem_cons_zero, List.getElem_cons_succ] at z0 z1
      clear c0 c1 b1 G0
      go_upto_region 5 with (go_at_call 46; (with_reducible refine CO1.out.mono ?_); rintro e w3 ⟨q1, q2, q3, q4, rfl, -, -, -, h5⟩; have HB2 := hiddenC (HB1.out.trans (h5.mono HB1.out.size)); clear h5)
      by_cases h0 : r3 = 0
      · subst h0
        rw [if_pos rfl] at RE2
        go_wp2
        go_roundg (n - (k + 1))
        case measure => omega
        case rel => exact ⟨k + 1, by omega, rfl, by go_num, RE2.out.symm, HB2.out⟩
      · rw [if_neg h0] at RE2
        go_wp2
        rw [← HPE.out]
        exact ⟨by rw [RE2.out]; rfl, HB2.out⟩
    · have hki : ¬ (k : Int) < (n : Int) := by omega
      go_wp2
      rw [← HPE.out]
      refine ⟨?_, HB.out⟩
      have q := HR.out
      rw [List.drop_eq_nil_of_le (by rw [HL.out]; omega)] at q
      rw [← q]
      rfl
set_option maxRecDepth 100000 in
set_option maxHeartbeats 4000000 in
theorem linesC_any (aL : Option Addr) (n cL : Nat) (mem : Int) (LL : List (LinC × (Option Addr × Nat))) (W : World) (hA : AtV linV 3 W aL LL) (ht : ∀ x ∈ LL, x.1.base ≤ 9223372036854775807) (hm : 0 ≤ mem ∧ mem ≤ 1024) (hl : LL.length = n) (hn : n ≤ 1000000) :
    Calls Try.prog 29 #[.slice aL n cL, .int .i64 mem] W fun e w' => e = .returned (.int .i64 (linesC mem (LL.map Prod.fst))) ∧ Below W.heap.size W w' := by
  obtain ⟨PE, hPE⟩ : ∃ Q : Ending → World → Prop, (fun e w' => e = .returned (.int .i64 (linesC mem (LL.map Prod.fst))) ∧ Below W.heap.size W w') = Q := ⟨_, rfl⟩
  rw [hPE]
  have HPE := hiddenC hPE
  have HA := hiddenC hA
  have HT := hiddenC ht
  have HL := hiddenC hl
  have HM := hiddenC hm
  clear hPE hA ht hl hm
  go_enter Try.func29, Try.ntmps29
  go_wp2
  go_loopg [9] n (fun gk u wr => ∃ k : Nat, k ≤ n ∧ gk = n - k ∧ u = .int .i64 (k : Int) ∧ linesC mem ((LL.drop k).map Prod.fst) = linesC mem (LL.map Prod.fst) ∧ Below W.heap.size W wr)
  case atStart => exact ⟨0, Nat.zero_le _, rfl, rfl, rfl, Below.refl _ _⟩
  case round =>
    obtain ⟨k, hk, rfl, rfl, hr, hB⟩ := hrel
    have HR := hiddenC hr
    have HB := hiddenC hB
    clear hr hB
    by_cases hlt : k < n
    · have hki : (k : Int) < (n : Int) := by omega
      have hkL : k < LL.length := by rw [HL.out]; exact hlt
      rcases HA.out.below HB.out with e1 | ⟨ab, off, rfl, hc⟩
      · rw [e1] at hkL; exact absurd hkL (Nat.not_lt_zero _)
      have hg : LL[k]? = some LL[k] := List.getElem?_eq_getElem hkL
      have hm : LL[k] ∈ LL := List.getElem_mem hkL
      have c0 := hc k _ hg 0 _ rfl
      have c1 := hc k _ hg 1 _ rfl
      have c2 := hc k _ hg 2 _ rfl
      have ht := HT.out _ hm
      have RE : Hid (linesC mem (LL[k].1 :: (LL.drop (k + 1)).map Prod.fst) = linesC mem (LL.map Prod.fst)) := by
        have q := HR.out
        rw [List.drop_eq_getElem_cons hkL, List.map_cons] at q
        exact q
      obtain ⟨x, hx⟩ : ∃ x, LL[k] = x := ⟨_, rfl⟩
      rw [hx] at c0 c1 RE ht c2
      clear hc hg hm HR hx
      obtain ⟨⟨b, s, zs⟩, a, c⟩ := x
      simp only [Nat.add_zero] at c0 c1 c2 ht
      have CO := hiddenC (insideC_any b s mem HM.out ht)
      have RE2 : Hid (linesC mem (LL.map Prod.fst) = if (decide (0 ≤ b) && (decide (0 ≤ s) && decide (s ≤ mem - b))) = true then (if s < zs.length then 88 else linesC mem ((LL.drop (k + 1)).map Prod.fst)) else 190) := RE.out.symm
      generalize (decide (0 ≤ b) && (decide (0 ≤ s) && decide (s ≤ mem - b))) = ib at *
      generalize zs.length = nz at *
      clear RE ht
      have b1 : Hid (Below wr.heap.size wr (wr.alloc (.cells #[.int .i64 b, .int .i64 s, .slice a nz c] 49))) := (Below.refl _ _).alloc (Nat.le_refl _) _
      have CO1 := hiddenC (CO.out (wr.alloc (.cells #[.int .i64 b, .int .i64 s, .slice a nz c] 49)))
      have HB1 := hiddenC (HB.out.trans (b1.out.mono HB.out.size))
      have G0 := hiddenC (blkA_new 49 wr #[.int .i64 b, .int .i64 s, .slice a nz c])
      clear CO
      go_upto_region 4 with fail
      generalize wr.alloc (.cells #[.int .i64 b, .int .i64 s, .slice a nz c] 49) = W2 at *
      have z0 := G0.out.cell (k := 0) rfl
      have z1 := G0.out.cell (k := 1) rfl
      simp only [List.getElem_toArray, List.getElem_cons_zero, List.getElem_cons_succ] at z0 z1
      clear c0 c1 c2 b1
      cases ib with
      | false =>
        rw [if_neg (by decide)] at RE2
        go_wp2_with (go_at_call 47; (with_reducible refine CO1.out.mono ?_); rintro e w3 ⟨rfl, h5⟩; have HB2 := hiddenC (HB1.out.trans (h5.mono HB1.out.size)); clear h5)
        rw [← HPE.out]
        exact ⟨by rw [RE2.out]; rfl, HB2.out⟩
      | true =>
        rw [if_pos rfl] at RE2
        by_cases h0 : s < (nz : Int)
        · rw [if_pos h0] at RE2
          have h1 : (nz : Int) > s := h0
          clear h0
          go_wp2_with (go_at_call 47; (with_reducible refine CO1.out.mono ?_); rintro e w3 ⟨rfl, h5⟩; have HB2 := hiddenC (HB1.out.trans (h5.mono HB1.out.size)); have y1 := (G0.out.below h5).cell (k := 1) rfl; have y2 := (G0.out.below h5).cell (k := 2) rfl; simp only [List.getElem_toArray, List.getElem_cons_zero, List.getElem_cons_succ] at y1 y2; clear h5 z0 z1)
          rw [← HPE.out]
          exact ⟨by rw [RE2.out]; rfl, HB2.out⟩
        · rw [if_neg h0] at RE2
          have h1 : ¬ (nz : Int) > s := h0
          clear h0
          go_wp2_with (go_at_call 47; (with_reducible refine CO1.out.mono ?_); rintro e w3 ⟨rfl, h5⟩; have HB2 := hiddenC (HB1.out.trans (h5.mono HB1.out.size)); have y1 := (G0.out.below h5).cell (k := 1) rfl; have y2 := (G0.out.below h5).cell (k := 2) rfl; simp only [List.getElem_toArray, List.getElem_cons_zero, List.getElem_cons_succ] at y1 y2; clear h5 z0 z1)
          go_roundg (n - (k + 1))
          case measure => omega
          case rel => exact ⟨k + 1, by omega, rfl, by go_num, RE2.out.symm, HB2.out⟩
    · have hki : ¬ (k : Int) < (n : Int) := by omega
      go_wp2
      rw [← HPE.out]
      refine ⟨?_, HB.out⟩
      have q := HR.out
      rw [List.drop_eq_nil_of_le (by rw [HL.out]; omega)] at q
      rw [← q]
      rfl
end Go.Proofs.Ytdjplmlfcolklaa
