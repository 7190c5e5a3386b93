/- Texts of one chain. -/
import Derived.Test.YtgoconkleicmkaaPartGraphBuilds25
set_option maxRecDepth 100000
set_option maxHeartbeats 2000000
namespace Go.Proofs.Ytgoconkleicmkaa
open Go.ChangeShapes Go.WideShapes Go.ChangeAt Go.RowKit
def SlcV (q : Value) : Prop := ∃ a n c, q = .slice a n c
theorem jE (ki fp fa tp ta pl : Int) (xn xt fn tn : List UInt8) (qa : Option Addr) (qn qc : Nat) (w : World) :
 Calls Try.prog 14 #[.agg #[.int .u8 ki, .string (zW xn), .string (zW xt), .slice qa qn qc, .string (zW fn), .int .i64 fp, .int .i64 fa, .string (zW tn), .int .i64 tp, .int .i64 ta, .int .i64 pl]] w fun e w' => e = .returned (.bool (decide (ki < 1) || decide (4 < ki))) /\ Below w.heap.size w w' := by
 have bx := zU 45 w #[.int .u8 ki, .string (zW xn), .string (zW xt), .slice qa qn qc, .string (zW fn), .int .i64 fp, .int .i64 fa, .string (zW tn), .int .i64 tp, .int .i64 ta, .int .i64 pl]
 have c0 := bx.cell (k := 0) rfl
 clear bx
 by_cases h1 : ki < 1
 ·rw [decide_eq_true h1, Bool.true_or]
  go_enter Try.func14, Try.ntmps14
  go_wp2
  go_ret
  exact ⟨rfl, (Below.refl _ _).alloc (Nat.le_refl _) _⟩
 rw [decide_eq_false h1, Bool.false_or]
 by_cases h2 : 4 < ki
 ·rw [decide_eq_true h2]
  go_enter Try.func14, Try.ntmps14
  go_wp2
  go_ret
  exact ⟨rfl, (Below.refl _ _).alloc (Nat.le_refl _) _⟩
 rw [decide_eq_false h2]
 go_enter Try.func14, Try.ntmps14
 go_wp2
 go_ret
 exact ⟨rfl, (Below.refl _ _).alloc (Nat.le_refl _) _⟩
theorem vR.slc {w : World} {r : Value} {ns : List Int} (h : vR w r ns) : SlcV r := by
 obtain ⟨a, c, rfl, -⟩ := h
 exact ⟨_, _, _, rfl⟩
theorem eV (a : Option Addr) (n c : Nat) (L : List (yO × Value)) (w : World) (hn : L.length = n) (h : nS w a L) (hl : n <= 4000000) :
 Calls Try.prog 13 #[.slice a n c, .func (.func 14) #[] #[]] w fun e w' => e = .returned (.int .i64 (vQ (L.map Prod.fst) 0)) /\ Below w.heap.size w w' := by
 have HR := zZ h
 have HL := zZ hn
 have hnI : (n : Int) <= 4000000 := by omega
 have hK : ∀ (x : Value) (W : World), (callFunc 14 #[x]).run Try.prog W = .ok (.enter 14 #[x]) W := fun _ _ => rfl
 clear h hn
 go_enter Try.func13, Try.ntmps13
 go_wp2
 go_loopg [8] n (fun gk v wr => ∃ k : Nat, k <= n /\ gk = n - k /\ v = .int .i64 (k : Int) /\ Below w.heap.size w wr /\ vQ (L.map Prod.fst) 0 = vQ ((L.map Prod.fst).drop k) k)
 case atStart => exact ⟨0, Nat.zero_le _, rfl, rfl, Below.refl _ _, rfl⟩
 case round =>
  obtain ⟨k, hk, rfl, rfl, hB, hE⟩ := hrel
  have HB := zZ hB
  have HE := zZ hE
  clear hB hE
  by_cases hlt : k < n
  ·have hki : (k : Int) < (n : Int) := by omega
   have hr := HR.out.below HB.out
   rcases hr.lie with e | ⟨g, off, rfl, hc⟩
   ·have := HL.out; rw [e] at this; simp at this; omega
   obtain ⟨c0, c1, c2, c3, c4, c5, c6, c7, c8, c9, c10⟩ := hc k (by have := HL.out; omega)
   obtain ⟨qa, qn, qc, hq⟩ := (hr.nums _ (yJ (L := L) (k := k) (by have := HL.out; omega))).slc
   rw [hq] at c3
   have HD := zZ (jG (L := L) (i := k) (by have := HL.out; omega))
   generalize (yV L k).1 = x at *
   obtain ⟨ki, xn, xt, ns, ⟨fn, fp, fa⟩, ⟨tn, tp, ta⟩, pl⟩ := x
   simp only at c0 c1 c2 c3 c4 c5 c6 c7 c8 c9 c10
   have HU : Hid (vQ (L.map Prod.fst) 0 = if xH ⟨ki, xn, xt, ns, ⟨fn, fp, fa⟩, ⟨tn, tp, ta⟩, pl⟩ = true then (k : Int) else vQ ((L.map Prod.fst).drop (k + 1)) (k + 1)) := by
    show _ = _
    rw [HE.out, HD.out]
    rfl
   have HC : Hid (∀ W, Calls Try.prog 14 #[.agg #[.int .u8 ki, .string (zW xn), .string (zW xt), .slice qa qn qc, .string (zW fn), .int .i64 fp, .int .i64 fa, .string (zW tn), .int .i64 tp, .int .i64 ta, .int .i64 pl]] W fun e w' => e = .returned (.bool (xH ⟨ki, xn, xt, ns, ⟨fn, fp, fa⟩, ⟨tn, tp, ta⟩, pl⟩)) /\ Below W.heap.size W w') := fun W => jE ki fp fa tp ta pl xn xt fn tn qa qn qc W
   generalize xH ⟨ki, xn, xt, ns, ⟨fn, fp, fa⟩, ⟨tn, tp, ta⟩, pl⟩ = b at *
   clear hc hr hq
   cases b
   ·go_wp2_with (go_at_call 14; (with_reducible refine (HC.out _).mono ?_); rintro e w1 ⟨rfl, b1⟩; have B1 := zZ b1; clear b1)
    go_roundg (n - (k + 1))
    case measure => omega
    case rel => exact ⟨k + 1, by omega, rfl, by go_num, HB.out.trans (B1.out.mono HB.out.size), by rw [HU.out]; rfl⟩
   go_wp2_with (go_at_call 14; (with_reducible refine (HC.out _).mono ?_); rintro e w1 ⟨rfl, b1⟩; have B1 := zZ b1; clear b1)
   go_ret
   exact ⟨by rw [HU.out]; rfl, HB.out.trans (B1.out.mono HB.out.size)⟩
  have hki : ¬ (k : Int) < (n : Int) := by omega
  go_wp2
  go_ret
  refine ⟨?_, HB.out⟩
  rw [HE.out, List.drop_eq_nil_of_le (by rw [List.length_map, HL.out]; omega)]
  rfl
theorem nQ (x : yO) (qa : Option Addr) (qn qc : Nat) (s : Nat) (w : World) :
 Calls Try.prog 43 #[.agg (ZR x.kind x.name x.tag (.slice qa qn qc) x.frm x.tgt x.place), .int .u8 (s : Int)] w fun e w' => e = .returned (.int .i64 (uX x s)) /\ Below w.heap.size w w' := by
 obtain ⟨ki, xn, xt, ns, ⟨fn, fp, fa⟩, ⟨tn, tp, ta⟩, pl⟩ := x
 unfold uX ZR
 simp only
 have bx := zU 45 w #[.int .u8 ki, .string (zW xn), .string (zW xt), .slice qa qn qc, .string (zW fn), .int .i64 fp, .int .i64 fa, .string (zW tn), .int .i64 tp, .int .i64 ta, .int .i64 pl]
 have c6 := bx.cell (k := 6) rfl
 have c9 := bx.cell (k := 9) rfl
 have c10 := bx.cell (k := 10) rfl
 clear bx
 by_cases h1 : s = 1
 ·subst h1
  rw [if_pos rfl]
  go_enter Try.func43, Try.ntmps43
  go_wp2
  go_ret
  exact ⟨rfl, (Below.refl _ _).alloc (Nat.le_refl _) _⟩
 rw [if_neg h1]
 have e1 : ((s : Int) == 1) = false := by simp; omega
 by_cases h2 : s = 2
 ·subst h2
  rw [if_pos rfl]
  go_enter Try.func43, Try.ntmps43
  go_wp2
  go_ret
  exact ⟨rfl, (Below.refl _ _).alloc (Nat.le_refl _) _⟩
 rw [if_neg h2]
 have e2 : ((s : Int) == 2) = false := by simp; omega
 go_enter Try.func43, Try.ntmps43
 go_wp2
 go_ret
 exact ⟨rfl, (Below.refl _ _).alloc (Nat.le_refl _) _⟩
theorem gS (f : FL) (a : Option Addr) (n c : Nat) (L : List (yO × Value)) (w : World) (hn : L.length = n) (h : nS w a L) (hl : n <= 4000000) (hf : f.number <= 1000) :
 Calls Try.prog 17 #[iS f, .slice a n c] w fun e w' => e = .returned (.int .i64 (xB (L.map Prod.fst) 0 f)) /\ Below w.heap.size w w' := by
 have HR := zZ h
 have HL := zZ hn
 have hnI : (n : Int) <= 4000000 := by omega
 obtain ⟨fc, fk, fnr, fs⟩ := f
 unfold iS
 simp only at hf ⊢
 have ba := (Below.refl w.heap.size w).alloc (Nat.le_refl _) (.cells #[.int .i64 fc, .int .u8 (fk : Int), .int .i64 (fnr : Int), .int .u8 (fs : Int)] 52)
 have BA := zZ ba
 have BX := zZ (zU 52 w #[.int .i64 fc, .int .u8 (fk : Int), .int .i64 (fnr : Int), .int .u8 (fs : Int)])
 have hfI : (fnr : Int) <= 1000 := by omega
 clear h hn ba
 go_enter Try.func17, Try.ntmps17
 go_wp2
 go_loopg [5, 10] n (fun gk nv v wr => ∃ k m : Nat, k <= n /\ m <= k /\ gk = n - k /\ v = .int .i64 (k : Int) /\ nv = .int .i64 (m : Int) /\ Below w.heap.size w wr /\ zN 52 w.heap.size wr #[.int .i64 fc, .int .u8 (fk : Int), .int .i64 (fnr : Int), .int .u8 (fs : Int)] /\ xB (L.map Prod.fst) 0 ⟨fc, fk, fnr, fs⟩ = xB ((L.map Prod.fst).drop k) m ⟨fc, fk, fnr, fs⟩)
 case atStart => exact ⟨0, 0, Nat.zero_le _, Nat.le_refl _, rfl, rfl, rfl, BA.out, BX.out, rfl⟩
 case round =>
  obtain ⟨k, m, hk, hmk, rfl, rfl, rfl, hB, hX, hE⟩ := hrel
  have HB := zZ hB
  have HX := zZ hX
  have HE := zZ hE
  clear hB hE hX
  by_cases hlt : k < n
  ·have hki : (k : Int) < (n : Int) := by omega
   have hr := HR.out.below HB.out
   rcases hr.lie with e | ⟨g, off, rfl, hc⟩
   ·have := HL.out; rw [e] at this; simp at this; omega
   obtain ⟨c0, c1, c2, c3, c4, c5, c6, c7, c8, c9, c10⟩ := hc k (by have := HL.out; omega)
   obtain ⟨qa, qn, qc, hq⟩ := (hr.nums _ (yJ (L := L) (k := k) (by have := HL.out; omega))).slc
   rw [hq] at c3
   have HD := zZ (jG (L := L) (i := k) (by have := HL.out; omega))
   generalize (yV L k).1 = x at *
   obtain ⟨ki, xn, xt, ns, ⟨fn, fp, fa⟩, ⟨tn, tp, ta⟩, pl⟩ := x
   simp only at c0 c1 c2 c3 c4 c5 c6 c7 c8 c9 c10
   have HU : Hid (xB (L.map Prod.fst) 0 ⟨fc, fk, fnr, fs⟩ = if ki = (fk : Int) then (if m = fnr then uX ⟨ki, xn, xt, ns, ⟨fn, fp, fa⟩, ⟨tn, tp, ta⟩, pl⟩ fs else xB ((L.map Prod.fst).drop (k + 1)) (m + 1) ⟨fc, fk, fnr, fs⟩) else xB ((L.map Prod.fst).drop (k + 1)) m ⟨fc, fk, fnr, fs⟩) := by
    show _ = _
    rw [HE.out, HD.out]
    rfl
   have bv := (Below.refl wr.heap.size wr).alloc (Nat.le_refl _) (.cells #[.int .u8 ki, .string (zW xn), .string (zW xt), .slice qa qn qc, .string (zW fn), .int .i64 fp, .int .i64 fa, .string (zW tn), .int .i64 tp, .int .i64 ta, .int .i64 pl] 45)
   have BV := zZ (HB.out.trans (bv.mono HB.out.size))
   have XV := zZ (HX.out.below bv)
   have x1 := XV.out.cell (k := 1) rfl
   have x2 := XV.out.cell (k := 2) rfl
   have x3 := XV.out.cell (k := 3) rfl
   have PW : Hid (∀ W, Calls Try.prog 43 #[.agg #[.int .u8 ki, .string (zW xn), .string (zW xt), .slice qa qn qc, .string (zW fn), .int .i64 fp, .int .i64 fa, .string (zW tn), .int .i64 tp, .int .i64 ta, .int .i64 pl], .int .u8 (fs : Int)] W fun e w' => e = .returned (.int .i64 (uX ⟨ki, xn, xt, ns, ⟨fn, fp, fa⟩, ⟨tn, tp, ta⟩, pl⟩ fs)) /\ Below W.heap.size W w') := fun W => nQ ⟨ki, xn, xt, ns, ⟨fn, fp, fa⟩, ⟨tn, tp, ta⟩, pl⟩ qa qn qc fs W
   clear hc hr hq bv
   by_cases h1 : ki = (fk : Int)
   ·subst h1
    have e1 : (((fk : Int)) != (fk : Int)) = false := by simp
    by_cases h2 : m = fnr
    ·subst h2
     have e2 : ((m : Int) == (m : Int)) = true := by simp
     go_wp2_with (go_at_call 43; (with_reducible refine (PW.out _).mono ?_); rintro e w1 ⟨rfl, b1⟩; have B1 := zZ b1; clear b1)
     go_ret
     exact ⟨by rw [HU.out, if_pos trivial, if_pos trivial]; rfl, BV.out.trans (B1.out.mono BV.out.size)⟩
    have e2 : ((m : Int) == (fnr : Int)) = false := by simp; omega
    go_wp2
    go_roundg (n - (k + 1))
    case measure => omega
    case rel => exact ⟨k + 1, m + 1, by omega, by omega, rfl, by go_num, by go_num, BV.out, XV.out, by rw [HU.out, if_pos trivial, if_neg h2]⟩
   have e1 : (ki != (fk : Int)) = true := by simpa using h1
   go_wp2
   go_roundg (n - (k + 1))
   case measure => omega
   case rel => exact ⟨k + 1, m, by omega, by omega, rfl, by go_num, rfl, BV.out, XV.out, by rw [HU.out, if_neg h1]⟩
  have hki : ¬ (k : Int) < (n : Int) := by omega
  go_wp2
  go_ret
  refine ⟨?_, HB.out⟩
  rw [HE.out, List.drop_eq_nil_of_le (by rw [List.length_map, HL.out]; omega)]
  rfl
end Go.Proofs.Ytgoconkleicmkaa
