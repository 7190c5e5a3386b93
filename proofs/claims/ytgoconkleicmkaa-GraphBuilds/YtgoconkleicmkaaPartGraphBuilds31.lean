/- Texts of one chain. -/
import Derived.Test.YtgoconkleicmkaaPartQ
import Derived.Test.YtgoconkleicmkaaPartGraphBuilds30
set_option maxRecDepth 100000
set_option maxHeartbeats 8000000
namespace Go.Proofs.Ytgoconkleicmkaa
open Go.ChangeShapes Go.WideShapes Go.ChangeAt Go.RowKit
theorem bV (g : GG) (a1 a2 a3 a4 : Option Addr) (c1 c2 c3 c4 : Nat) (k : Nat) (w : World) (h : sH w a1 a2 a3 a4 g) (hk : k < g.E.length) :
 Calls Try.prog 51 #[.agg #[.string (zW g.name), .slice a1 g.A.length c1, .slice a2 g.E.length c2, .slice a3 g.ins.length c3, .slice a4 g.outs.length c4], .int .i64 (k : Int)] w fun e w' => e = .returned (.tuple #[.int .i64 (xW g k).1, .int .i64 ((xW g k).2 : Int)]) /\ Below w.heap.size w w' := by
 have hki : (k : Int) < (g.E.length : Int) := by omega
 have l2 := h.l2
 have n2 : (g.E.length : Int) <= 1000000000000000 := by omega
 have ba := (Below.refl w.heap.size w).alloc (Nat.le_refl _) (.cells #[.string (zW g.name), .slice a1 g.A.length c1, .slice a2 g.E.length c2, .slice a3 g.ins.length c3, .slice a4 g.outs.length c4] 31)
 have HG := zZ h
 have EN : Hid (∀ U (ac po : Int) (ot tk : Bool), Below w.heap.size w U -> Calls Try.prog 72 #[.agg #[.string (zW g.name), .slice a1 g.A.length c1, .slice a2 g.E.length c2, .slice a3 g.ins.length c3, .slice a4 g.outs.length c4], .int .i64 ac, .int .i64 po, .bool ot, .bool tk] U fun e w' => e = .returned (.int .i64 (oP g ac po (if ot = true then wT g ac.toNat else uL g ac.toNat) tk)) /\ Below U.heap.size U w') := fun U ac po ot tk hb => lS g a1 a2 a3 a4 c1 c2 c3 c4 ac po ot tk U (HG.out.below hb)
 have OT : Hid (∀ U (ac po : Int), Below w.heap.size w U -> Calls Try.prog 73 #[.agg #[.string (zW g.name), .slice a1 g.A.length c1, .slice a2 g.E.length c2, .slice a3 g.ins.length c3, .slice a4 g.outs.length c4], .int .i64 (k : Int), .int .i64 0, .int .i64 ac, .int .i64 po] U fun e w' => e = .returned (.bool (xI g k 0 ac po)) /\ Below U.heap.size U w') := fun U ac po hb => sP g a1 a2 a3 a4 c1 c2 c3 c4 k 0 ac po U (HG.out.below hb) (by omega) (Nat.zero_le _)
 have IT : Hid (∀ U (ac po : Int), Below w.heap.size w U -> Calls Try.prog 74 #[.agg #[.string (zW g.name), .slice a1 g.A.length c1, .slice a2 g.E.length c2, .slice a3 g.ins.length c3, .slice a4 g.outs.length c4], .int .i64 (k : Int), .int .i64 0, .int .i64 ac, .int .i64 po] U fun e w' => e = .returned (.bool (vS g k 0 ac po)) /\ Below U.heap.size U w') := fun U ac po hb => rU g a1 a2 a3 a4 c1 c2 c3 c4 k 0 ac po U (HG.out.below hb) (by omega) (Nat.zero_le _)
 have HC : Hid (xW g k = if vM g k 0 (yU g.E k).f (yU g.E k).fp ≠ 0 then (vM g k 0 (yU g.E k).f (yU g.E k).fp, 1) else if tM g k 0 (yU g.E k).t (yU g.E k).tp ≠ 0 then (tM g k 0 (yU g.E k).t (yU g.E k).tp, 2) else if 256 < (yU g.E k).start.length then (88, 0) else (0, 0)) := by rfl
 have B0 := zZ (vP w #[.string (zW g.name), .slice a1 g.A.length c1, .slice a2 g.E.length c2, .slice a3 g.ins.length c3, .slice a4 g.outs.length c4])
 have y2 := B0.out.1.cell (k := 2) rfl
 obtain ⟨b, off, ha2, hc⟩ : ∃ b off, a2 = some ⟨b, off, none⟩ /\ ∀ j, j < g.E.length -> _ := by
  rcases (h.below ba).E with e | q
  ·rw [e] at hk; exact absurd hk (Nat.not_lt_zero _)
  exact q
 obtain ⟨x0, x1, x2, x3, xa, xc, x4, x5⟩ := hc k hk
 rw [ha2] at y2
 have hsl := x5.reach
 clear hc x5 ba h
 generalize yU g.E k = E at *
 obtain ⟨ef, efp, et, etp, es⟩ := E
 simp only at x0 x1 x2 x3 x4 HC hsl
 have hes : (es.length : Int) <= 140737488351232 := by omega
 have OT1 : Hid (∀ U, Below w.heap.size w U -> Calls Try.prog 73 #[.agg #[.string (zW g.name), .slice a1 g.A.length c1, .slice a2 g.E.length c2, .slice a3 g.ins.length c3, .slice a4 g.outs.length c4], .int .i64 (k : Int), .int .i64 0, .int .i64 ef, .int .i64 efp] U fun e w' => e = .returned (.bool (xI g k 0 ef efp)) /\ Below U.heap.size U w') := fun U hb => OT.out U ef efp hb
 have IT1 : Hid (∀ U, Below w.heap.size w U -> Calls Try.prog 74 #[.agg #[.string (zW g.name), .slice a1 g.A.length c1, .slice a2 g.E.length c2, .slice a3 g.ins.length c3, .slice a4 g.outs.length c4], .int .i64 (k : Int), .int .i64 0, .int .i64 et, .int .i64 etp] U fun e w' => e = .returned (.bool (vS g k 0 et etp)) /\ Below U.heap.size U w') := fun U hb => IT.out U et etp hb
 have EO : Hid (∀ U, Below w.heap.size w U -> Calls Try.prog 72 #[.agg #[.string (zW g.name), .slice a1 g.A.length c1, .slice a2 g.E.length c2, .slice a3 g.ins.length c3, .slice a4 g.outs.length c4], .int .i64 ef, .int .i64 efp, .bool true, .bool (xI g k 0 ef efp)] U fun e w' => e = .returned (.int .i64 (vM g k 0 ef efp)) /\ Below U.heap.size U w') := fun U hb => EN.out U ef efp true _ hb
 have EI : Hid (∀ U, Below w.heap.size w U -> Calls Try.prog 72 #[.agg #[.string (zW g.name), .slice a1 g.A.length c1, .slice a2 g.E.length c2, .slice a3 g.ins.length c3, .slice a4 g.outs.length c4], .int .i64 et, .int .i64 etp, .bool false, .bool (vS g k 0 et etp)] U fun e w' => e = .returned (.int .i64 (tM g k 0 et etp)) /\ Below U.heap.size U w') := fun U hb => EN.out U et etp false _ hb
 generalize xI g k 0 ef efp = tk1 at *
 generalize vS g k 0 et etp = tk2 at *
 generalize vM g k 0 ef efp = oe at *
 generalize tM g k 0 et etp = ie at *
 clear EN OT IT
 have bv := B0.out.2.trans (((Below.refl (w.alloc (.cells #[.string (zW g.name), .slice a1 g.A.length c1, .slice a2 g.E.length c2, .slice a3 g.ins.length c3, .slice a4 g.outs.length c4] 31)).heap.size (w.alloc (.cells #[.string (zW g.name), .slice a1 g.A.length c1, .slice a2 g.E.length c2, .slice a3 g.ins.length c3, .slice a4 g.outs.length c4] 31))).alloc (Nat.le_refl _) (.cells #[.int .i64 ef, .int .i64 efp, .int .i64 et, .int .i64 etp, .slice xa es.length xc] 64)).mono B0.out.2.size)
 have GB := zZ (B0.out.1.below ((Below.refl (w.alloc (.cells #[.string (zW g.name), .slice a1 g.A.length c1, .slice a2 g.E.length c2, .slice a3 g.ins.length c3, .slice a4 g.outs.length c4] 31)).heap.size (w.alloc (.cells #[.string (zW g.name), .slice a1 g.A.length c1, .slice a2 g.E.length c2, .slice a3 g.ins.length c3, .slice a4 g.outs.length c4] 31))).alloc (Nat.le_refl _) (.cells #[.int .i64 ef, .int .i64 efp, .int .i64 et, .int .i64 etp, .slice xa es.length xc] 64)))
 have BX : Hid (zN 64 (w.heap.size + 1) ((w.alloc (.cells #[.string (zW g.name), .slice a1 g.A.length c1, .slice a2 g.E.length c2, .slice a3 g.ins.length c3, .slice a4 g.outs.length c4] 31)).alloc (.cells #[.int .i64 ef, .int .i64 efp, .int .i64 et, .int .i64 etp, .slice xa es.length xc] 64)) #[.int .i64 ef, .int .i64 efp, .int .i64 et, .int .i64 etp, .slice xa es.length xc]) := by
  have q := zU 64 (w.alloc (.cells #[.string (zW g.name), .slice a1 g.A.length c1, .slice a2 g.E.length c2, .slice a3 g.ins.length c3, .slice a4 g.outs.length c4] 31)) #[.int .i64 ef, .int .i64 efp, .int .i64 et, .int .i64 etp, .slice xa es.length xc]
  rw [World.size_alloc] at q
  exact q
 have BV := zZ bv
 clear bv
 subst ha2
 go_enter Try.func51, Try.ntmps51
 go_upto_region 2 with fail
 generalize (w.alloc (.cells #[.string (zW g.name), .slice a1 g.A.length c1, .slice (some ⟨b, off, none⟩) g.E.length c2, .slice a3 g.ins.length c3, .slice a4 g.outs.length c4] 31)).alloc (.cells #[.int .i64 ef, .int .i64 efp, .int .i64 et, .int .i64 etp, .slice xa es.length xc] 64) = V at *
 have gx0 : V.cell? ⟨w.heap.size, 0, none⟩ = some (.string (zW g.name)) := (GB.out).cell rfl
 have gx1 : V.cell? ⟨w.heap.size, 1, none⟩ = some (.slice a1 g.A.length c1) := (GB.out).cell rfl
 have gx2 : V.cell? ⟨w.heap.size, 2, none⟩ = some (.slice (some ⟨b, off, none⟩) g.E.length c2) := (GB.out).cell rfl
 have gx3 : V.cell? ⟨w.heap.size, 3, none⟩ = some (.slice a3 g.ins.length c3) := (GB.out).cell rfl
 have gx4 : V.cell? ⟨w.heap.size, 4, none⟩ = some (.slice a4 g.outs.length c4) := (GB.out).cell rfl
 have bb0 := BX.out.cell (k := 0) rfl
 have bb1 := BX.out.cell (k := 1) rfl
 have bb2 := BX.out.cell (k := 2) rfl
 have bb3 := BX.out.cell (k := 3) rfl
 have bb4 := BX.out.cell (k := 4) rfl
 clear x0 x1 x2 x3 x4 y2
 have OTV : Hid (∀ U, Below V.heap.size V U -> Calls Try.prog 73 #[.agg #[.string (zW g.name), .slice a1 g.A.length c1, .slice (some ⟨b, off, none⟩) g.E.length c2, .slice a3 g.ins.length c3, .slice a4 g.outs.length c4], .int .i64 (k : Int), .int .i64 0, .int .i64 ef, .int .i64 efp] U fun e w' => e = .returned (.bool tk1) /\ Below U.heap.size U w') := fun U hb => OT1.out U (BV.out.trans (hb.mono BV.out.size))
 have EOV : Hid (∀ U, Below V.heap.size V U -> Calls Try.prog 72 #[.agg #[.string (zW g.name), .slice a1 g.A.length c1, .slice (some ⟨b, off, none⟩) g.E.length c2, .slice a3 g.ins.length c3, .slice a4 g.outs.length c4], .int .i64 ef, .int .i64 efp, .bool true, .bool tk1] U fun e w' => e = .returned (.int .i64 oe) /\ Below U.heap.size U w') := fun U hb => EO.out U (BV.out.trans (hb.mono BV.out.size))
 by_cases h1 : oe = 0
 ·subst h1
  refine zP 13 (fun i u v => match i with
   | 0 => v = .agg #[.string (zW g.name), .slice a1 g.A.length c1, .slice (some ⟨b, off, none⟩) g.E.length c2, .slice a3 g.ins.length c3, .slice a4 g.outs.length c4]
   | 1 => v = .pointer (some ⟨w.heap.size + 1, 0, none⟩)
   | 2 => v = .int .i64 ef
   | 3 => v = .pointer (some ⟨w.heap.size + 1, 1, none⟩)
   | 4 => v = .int .i64 efp
   | 5 => v = .agg #[.string (zW g.name), .slice a1 g.A.length c1, .slice (some ⟨b, off, none⟩) g.E.length c2, .slice a3 g.ins.length c3, .slice a4 g.outs.length c4]
   | 6 => v = .int .i64 (k : Int)
   | 7 => v = .pointer (some ⟨w.heap.size + 1, 0, none⟩)
   | 8 => v = .int .i64 ef
   | 9 => v = .pointer (some ⟨w.heap.size + 1, 1, none⟩)
   | 10 => v = .int .i64 efp
   | 11 => v = .bool tk1
   | 12 => v = .int .i64 0
   | _ => True) (by kernel_rfl) (by kernel_rfl) (by kernel_rfl) (by kernel_rfl) ?_ ?_ ?_
  ·intro i w v w' h hb
   match i, h with
   | 0, h => exact h
   | 1, h => exact h
   | 2, h => exact h
   | 3, h => exact h
   | 4, h => exact h
   | 5, h => exact h
   | 6, h => exact h
   | 7, h => exact h
   | 8, h => exact h
   | 9, h => exact h
   | 10, h => exact h
   | 11, h => exact h
   | 12, h => exact h
   | _ + 13, _ => trivial
  ·intro i o ρ w' hi ho hb hc hf hfr zY
   have g0 := zX hb gx0
   have g1 := zX hb gx1
   have g2 := zX hb gx2
   have g3 := zX hb gx3
   have g4 := zX hb gx4
   have b0 := zX hb bb0
   have b1 := zX hb bb1
   have b2 := zX hb bb2
   have b3 := zX hb bb3
   match i, hi with
   | 0, _ =>
    simp only [qS] at ho
    subst ho
    have ts : ρ (.tmp 2) = .pointer (some ⟨w.heap.size, 0, none⟩) := hfr 2 (by kernel_rfl)
    simp [go_sem, ts, g0, g1, g2, g3, g4]
    exact qB
   | 1, _ =>
    simp only [qS] at ho
    subst ho
    have ts : ρ (.tmp 6) = .pointer (some ⟨w.heap.size + 1, 0, none⟩) := hfr 6 (by kernel_rfl)
    simp [go_sem, ts]
    exact qB
   | 2, _ =>
    simp only [qS] at ho
    subst ho
    have ts : ρ (.tmp 14) = .pointer (some ⟨w.heap.size + 1, 0, none⟩) := zY 1 14 (by kernel_rfl) (by kernel_rfl)
    simp [go_sem, ts, b0]
    exact qB
   | 3, _ =>
    simp only [qS] at ho
    subst ho
    have ts : ρ (.tmp 6) = .pointer (some ⟨w.heap.size + 1, 0, none⟩) := hfr 6 (by kernel_rfl)
    simp [go_sem, ts]
    exact qB
   | 4, _ =>
    simp only [qS] at ho
    subst ho
    have ts : ρ (.tmp 16) = .pointer (some ⟨w.heap.size + 1, 1, none⟩) := zY 3 16 (by kernel_rfl) (by kernel_rfl)
    simp [go_sem, ts, b1]
    exact qB
   | 5, _ =>
    simp only [qS] at ho
    subst ho
    have ts : ρ (.tmp 2) = .pointer (some ⟨w.heap.size, 0, none⟩) := hfr 2 (by kernel_rfl)
    simp [go_sem, ts, g0, g1, g2, g3, g4]
    exact qB
   | 6, _ =>
    simp only [qS] at ho
    subst ho
    have ts : ρ (.tmp 1) = .int .i64 (k : Int) := hfr 1 (by kernel_rfl)
    simp [go_sem, ts]
    exact qB
   | 7, _ =>
    simp only [qS] at ho
    subst ho
    have ts : ρ (.tmp 6) = .pointer (some ⟨w.heap.size + 1, 0, none⟩) := hfr 6 (by kernel_rfl)
    simp [go_sem, ts]
    exact qB
   | 8, _ =>
    simp only [qS] at ho
    subst ho
    have ts : ρ (.tmp 20) = .pointer (some ⟨w.heap.size + 1, 0, none⟩) := zY 7 20 (by kernel_rfl) (by kernel_rfl)
    simp [go_sem, ts, b0]
    exact qB
   | 9, _ =>
    simp only [qS] at ho
    subst ho
    have ts : ρ (.tmp 6) = .pointer (some ⟨w.heap.size + 1, 0, none⟩) := hfr 6 (by kernel_rfl)
    simp [go_sem, ts]
    exact qB
   | 10, _ =>
    simp only [qS] at ho
    subst ho
    have ts : ρ (.tmp 22) = .pointer (some ⟨w.heap.size + 1, 1, none⟩) := zY 9 22 (by kernel_rfl) (by kernel_rfl)
    simp [go_sem, ts, b1]
    exact qB
   | 11, _ =>
    simp only [qS] at ho
    subst ho
    have t0 : ρ (.tmp 18) = .agg #[.string (zW g.name), .slice a1 g.A.length c1, .slice (some ⟨b, off, none⟩) g.E.length c2, .slice a3 g.ins.length c3, .slice a4 g.outs.length c4] := zY 5 18 (by kernel_rfl) (by kernel_rfl)
    have t1 : ρ (.tmp 19) = .int .i64 (k : Int) := zY 6 19 (by kernel_rfl) (by kernel_rfl)
    have t2 : ρ (.tmp 21) = .int .i64 ef := zY 8 21 (by kernel_rfl) (by kernel_rfl)
    have t3 : ρ (.tmp 23) = .int .i64 efp := zY 10 23 (by kernel_rfl) (by kernel_rfl)
    simp [go_sem, t0, t1, t2, t3, hf, hc]
    exact ⟨rfl, (OTV.out w' hb).mono fun e w'' hh => ⟨_, hh.1, hh.2, rfl⟩⟩
   | 12, _ =>
    simp only [qS] at ho
    subst ho
    have t0 : ρ (.tmp 13) = .agg #[.string (zW g.name), .slice a1 g.A.length c1, .slice (some ⟨b, off, none⟩) g.E.length c2, .slice a3 g.ins.length c3, .slice a4 g.outs.length c4] := zY 0 13 (by kernel_rfl) (by kernel_rfl)
    have t1 : ρ (.tmp 15) = .int .i64 ef := zY 2 15 (by kernel_rfl) (by kernel_rfl)
    have t2 : ρ (.tmp 17) = .int .i64 efp := zY 4 17 (by kernel_rfl) (by kernel_rfl)
    have t3 : ρ (.tmp 24) = .bool tk1 := zY 11 24 (by kernel_rfl) (by kernel_rfl)
    simp [go_sem, t0, t1, t2, t3, hf, hc]
    exact ⟨rfl, (EOV.out w' hb).mono fun e w'' hh => ⟨_, hh.1, hh.2, rfl⟩⟩
  intro V9 w9 q9 hS
  have e0 : V9 0 = .agg #[.string (zW g.name), .slice a1 g.A.length c1, .slice (some ⟨b, off, none⟩) g.E.length c2, .slice a3 g.ins.length c3, .slice a4 g.outs.length c4] := hS 0 (by decide)
  have e1 : V9 1 = .pointer (some ⟨w.heap.size + 1, 0, none⟩) := hS 1 (by decide)
  have e2 : V9 2 = .int .i64 ef := hS 2 (by decide)
  have e3 : V9 3 = .pointer (some ⟨w.heap.size + 1, 1, none⟩) := hS 3 (by decide)
  have e4 : V9 4 = .int .i64 efp := hS 4 (by decide)
  have e5 : V9 5 = .agg #[.string (zW g.name), .slice a1 g.A.length c1, .slice (some ⟨b, off, none⟩) g.E.length c2, .slice a3 g.ins.length c3, .slice a4 g.outs.length c4] := hS 5 (by decide)
  have e6 : V9 6 = .int .i64 (k : Int) := hS 6 (by decide)
  have e7 : V9 7 = .pointer (some ⟨w.heap.size + 1, 0, none⟩) := hS 7 (by decide)
  have e8 : V9 8 = .int .i64 ef := hS 8 (by decide)
  have e9 : V9 9 = .pointer (some ⟨w.heap.size + 1, 1, none⟩) := hS 9 (by decide)
  have e10 : V9 10 = .int .i64 efp := hS 10 (by decide)
  have e11 : V9 11 = .bool tk1 := hS 11 (by decide)
  have e12 : V9 12 = .int .i64 0 := hS 12 (by decide)
  simp only [List.drop_succ_cons, List.drop_zero, List.take_succ_cons, List.take_zero, yL, e0, e1, e2, e3, e4, e5, e6, e7, e8, e9, e10, e11, e12]
  clear hS e0 e1 e2 e3 e4 e5 e6 e7 e8 e9 e10 e11 e12 V9
  simp only [Act.put, qU]
  have Q9 := zZ q9
  have BW := zZ (BV.out.trans (q9.mono BV.out.size))
  have gy0 := zX q9 gx0
  have gy1 := zX q9 gx1
  have gy2 := zX q9 gx2
  have gy3 := zX q9 gx3
  have gy4 := zX q9 gx4
  have bc0 := zX q9 bb0
  have bc1 := zX q9 bb1
  have bc2 := zX q9 bb2
  have bc3 := zX q9 bb3
  have bc4 := zX q9 bb4
  have ITV : Hid (∀ U, Below w9.heap.size w9 U -> Calls Try.prog 74 #[.agg #[.string (zW g.name), .slice a1 g.A.length c1, .slice (some ⟨b, off, none⟩) g.E.length c2, .slice a3 g.ins.length c3, .slice a4 g.outs.length c4], .int .i64 (k : Int), .int .i64 0, .int .i64 et, .int .i64 etp] U fun e w' => e = .returned (.bool tk2) /\ Below U.heap.size U w') := fun U hb => IT1.out U (BW.out.trans (hb.mono BW.out.size))
  have EIV : Hid (∀ U, Below w9.heap.size w9 U -> Calls Try.prog 72 #[.agg #[.string (zW g.name), .slice a1 g.A.length c1, .slice (some ⟨b, off, none⟩) g.E.length c2, .slice a3 g.ins.length c3, .slice a4 g.outs.length c4], .int .i64 et, .int .i64 etp, .bool false, .bool tk2] U fun e w' => e = .returned (.int .i64 ie) /\ Below U.heap.size U w') := fun U hb => EI.out U (BW.out.trans (hb.mono BW.out.size))
  clear q9 gx0 gx1 gx2 gx3 gx4 bb0 bb1 bb2 bb3 bb4 OTV EOV
  go_upto_region 5 with fail
  by_cases h2 : ie = 0
  ·subst h2
   refine zP 13 (fun i u v => match i with
    | 0 => v = .agg #[.string (zW g.name), .slice a1 g.A.length c1, .slice (some ⟨b, off, none⟩) g.E.length c2, .slice a3 g.ins.length c3, .slice a4 g.outs.length c4]
    | 1 => v = .pointer (some ⟨w.heap.size + 1, 2, none⟩)
    | 2 => v = .int .i64 et
    | 3 => v = .pointer (some ⟨w.heap.size + 1, 3, none⟩)
    | 4 => v = .int .i64 etp
    | 5 => v = .agg #[.string (zW g.name), .slice a1 g.A.length c1, .slice (some ⟨b, off, none⟩) g.E.length c2, .slice a3 g.ins.length c3, .slice a4 g.outs.length c4]
    | 6 => v = .int .i64 (k : Int)
    | 7 => v = .pointer (some ⟨w.heap.size + 1, 2, none⟩)
    | 8 => v = .int .i64 et
    | 9 => v = .pointer (some ⟨w.heap.size + 1, 3, none⟩)
    | 10 => v = .int .i64 etp
    | 11 => v = .bool tk2
    | 12 => v = .int .i64 0
    | _ => True) (by kernel_rfl) (by kernel_rfl) (by kernel_rfl) (by kernel_rfl) ?_ ?_ ?_
   ·intro i w v w' h hb
    match i, h with
    | 0, h => exact h
    | 1, h => exact h
    | 2, h => exact h
    | 3, h => exact h
    | 4, h => exact h
    | 5, h => exact h
    | 6, h => exact h
    | 7, h => exact h
    | 8, h => exact h
    | 9, h => exact h
    | 10, h => exact h
    | 11, h => exact h
    | 12, h => exact h
    | _ + 13, _ => trivial
   ·intro i o ρ w' hi ho hb hc hf hfr zY
    have g0 := zX hb gy0
    have g1 := zX hb gy1
    have g2 := zX hb gy2
    have g3 := zX hb gy3
    have g4 := zX hb gy4
    have b0 := zX hb bc0
    have b1 := zX hb bc1
    have b2 := zX hb bc2
    have b3 := zX hb bc3
    match i, hi with
    | 0, _ =>
     simp only [qS] at ho
     subst ho
     have ts : ρ (.tmp 2) = .pointer (some ⟨w.heap.size, 0, none⟩) := hfr 2 (by kernel_rfl)
     simp [go_sem, ts, g0, g1, g2, g3, g4]
     exact qB
    | 1, _ =>
     simp only [qS] at ho
     subst ho
     have ts : ρ (.tmp 6) = .pointer (some ⟨w.heap.size + 1, 0, none⟩) := hfr 6 (by kernel_rfl)
     simp [go_sem, ts]
     exact qB
    | 2, _ =>
     simp only [qS] at ho
     subst ho
     have ts : ρ (.tmp 30) = .pointer (some ⟨w.heap.size + 1, 2, none⟩) := zY 1 30 (by kernel_rfl) (by kernel_rfl)
     simp [go_sem, ts, b2]
     exact qB
    | 3, _ =>
     simp only [qS] at ho
     subst ho
     have ts : ρ (.tmp 6) = .pointer (some ⟨w.heap.size + 1, 0, none⟩) := hfr 6 (by kernel_rfl)
     simp [go_sem, ts]
     exact qB
    | 4, _ =>
     simp only [qS] at ho
     subst ho
     have ts : ρ (.tmp 32) = .pointer (some ⟨w.heap.size + 1, 3, none⟩) := zY 3 32 (by kernel_rfl) (by kernel_rfl)
     simp [go_sem, ts, b3]
     exact qB
    | 5, _ =>
     simp only [qS] at ho
     subst ho
     have ts : ρ (.tmp 2) = .pointer (some ⟨w.heap.size, 0, none⟩) := hfr 2 (by kernel_rfl)
     simp [go_sem, ts, g0, g1, g2, g3, g4]
     exact qB
    | 6, _ =>
     simp only [qS] at ho
     subst ho
     have ts : ρ (.tmp 1) = .int .i64 (k : Int) := hfr 1 (by kernel_rfl)
     simp [go_sem, ts]
     exact qB
    | 7, _ =>
     simp only [qS] at ho
     subst ho
     have ts : ρ (.tmp 6) = .pointer (some ⟨w.heap.size + 1, 0, none⟩) := hfr 6 (by kernel_rfl)
     simp [go_sem, ts]
     exact qB
    | 8, _ =>
     simp only [qS] at ho
     subst ho
     have ts : ρ (.tmp 36) = .pointer (some ⟨w.heap.size + 1, 2, none⟩) := zY 7 36 (by kernel_rfl) (by kernel_rfl)
     simp [go_sem, ts, b2]
     exact qB
    | 9, _ =>
     simp only [qS] at ho
     subst ho
     have ts : ρ (.tmp 6) = .pointer (some ⟨w.heap.size + 1, 0, none⟩) := hfr 6 (by kernel_rfl)
     simp [go_sem, ts]
     exact qB
    | 10, _ =>
     simp only [qS] at ho
     subst ho
     have ts : ρ (.tmp 38) = .pointer (some ⟨w.heap.size + 1, 3, none⟩) := zY 9 38 (by kernel_rfl) (by kernel_rfl)
     simp [go_sem, ts, b3]
     exact qB
    | 11, _ =>
     simp only [qS] at ho
     subst ho
     have t0 : ρ (.tmp 34) = .agg #[.string (zW g.name), .slice a1 g.A.length c1, .slice (some ⟨b, off, none⟩) g.E.length c2, .slice a3 g.ins.length c3, .slice a4 g.outs.length c4] := zY 5 34 (by kernel_rfl) (by kernel_rfl)
     have t1 : ρ (.tmp 35) = .int .i64 (k : Int) := zY 6 35 (by kernel_rfl) (by kernel_rfl)
     have t2 : ρ (.tmp 37) = .int .i64 et := zY 8 37 (by kernel_rfl) (by kernel_rfl)
     have t3 : ρ (.tmp 39) = .int .i64 etp := zY 10 39 (by kernel_rfl) (by kernel_rfl)
     simp [go_sem, t0, t1, t2, t3, hf, hc]
     exact ⟨rfl, (ITV.out w' hb).mono fun e w'' hh => ⟨_, hh.1, hh.2, rfl⟩⟩
    | 12, _ =>
     simp only [qS] at ho
     subst ho
     have t0 : ρ (.tmp 29) = .agg #[.string (zW g.name), .slice a1 g.A.length c1, .slice (some ⟨b, off, none⟩) g.E.length c2, .slice a3 g.ins.length c3, .slice a4 g.outs.length c4] := zY 0 29 (by kernel_rfl) (by kernel_rfl)
     have t1 : ρ (.tmp 31) = .int .i64 et := zY 2 31 (by kernel_rfl) (by kernel_rfl)
     have t2 : ρ (.tmp 33) = .int .i64 etp := zY 4 33 (by kernel_rfl) (by kernel_rfl)
     have t3 : ρ (.tmp 40) = .bool tk2 := zY 11 40 (by kernel_rfl) (by kernel_rfl)
     simp [go_sem, t0, t1, t2, t3, hf, hc]
     exact ⟨rfl, (EIV.out w' hb).mono fun e w'' hh => ⟨_, hh.1, hh.2, rfl⟩⟩
   intro V9 w8 q8 hS
   have e0 : V9 0 = .agg #[.string (zW g.name), .slice a1 g.A.length c1, .slice (some ⟨b, off, none⟩) g.E.length c2, .slice a3 g.ins.length c3, .slice a4 g.outs.length c4] := hS 0 (by decide)
   have e1 : V9 1 = .pointer (some ⟨w.heap.size + 1, 2, none⟩) := hS 1 (by decide)
   have e2 : V9 2 = .int .i64 et := hS 2 (by decide)
   have e3 : V9 3 = .pointer (some ⟨w.heap.size + 1, 3, none⟩) := hS 3 (by decide)
   have e4 : V9 4 = .int .i64 etp := hS 4 (by decide)
   have e5 : V9 5 = .agg #[.string (zW g.name), .slice a1 g.A.length c1, .slice (some ⟨b, off, none⟩) g.E.length c2, .slice a3 g.ins.length c3, .slice a4 g.outs.length c4] := hS 5 (by decide)
   have e6 : V9 6 = .int .i64 (k : Int) := hS 6 (by decide)
   have e7 : V9 7 = .pointer (some ⟨w.heap.size + 1, 2, none⟩) := hS 7 (by decide)
   have e8 : V9 8 = .int .i64 et := hS 8 (by decide)
   have e9 : V9 9 = .pointer (some ⟨w.heap.size + 1, 3, none⟩) := hS 9 (by decide)
   have e10 : V9 10 = .int .i64 etp := hS 10 (by decide)
   have e11 : V9 11 = .bool tk2 := hS 11 (by decide)
   have e12 : V9 12 = .int .i64 0 := hS 12 (by decide)
   simp only [List.drop_succ_cons, List.drop_zero, List.take_succ_cons, List.take_zero, yL, e0, e1, e2, e3, e4, e5, e6, e7, e8, e9, e10, e11, e12]
   clear hS e0 e1 e2 e3 e4 e5 e6 e7 e8 e9 e10 e11 e12 V9
   simp only [Act.put, qU]
   have B8 := zZ (BW.out.trans (q8.mono BW.out.size))
   have bd4 := zX q8 bc4
   clear q8
   by_cases h3 : 256 < es.length
   ·have h4 : (es.length : Int) > 256 := by omega
    go_wp2
    refine bodyPost_ret (v := .tuple #[.int .i64 88, .int .i64 0]) (by simp [results, Try.results51, go_sem]) rfl ?_
    exact ⟨by rw [HC.out, if_neg (by decide), if_neg (by decide), if_pos h3]; rfl, B8.out⟩
   have h4 : ¬ (es.length : Int) > 256 := by omega
   go_wp2
   refine bodyPost_ret (v := .tuple #[.int .i64 0, .int .i64 0]) (by simp [results, Try.results51, go_sem]) rfl ?_
   exact ⟨by rw [HC.out, if_neg (by decide), if_neg (by decide), if_neg h3]; rfl, B8.out⟩
  have h3 : (ie != 0) = true := by simpa using h2
  refine zP 13 (fun i u v => match i with
   | 0 => v = .agg #[.string (zW g.name), .slice a1 g.A.length c1, .slice (some ⟨b, off, none⟩) g.E.length c2, .slice a3 g.ins.length c3, .slice a4 g.outs.length c4]
   | 1 => v = .pointer (some ⟨w.heap.size + 1, 2, none⟩)
   | 2 => v = .int .i64 et
   | 3 => v = .pointer (some ⟨w.heap.size + 1, 3, none⟩)
   | 4 => v = .int .i64 etp
   | 5 => v = .agg #[.string (zW g.name), .slice a1 g.A.length c1, .slice (some ⟨b, off, none⟩) g.E.length c2, .slice a3 g.ins.length c3, .slice a4 g.outs.length c4]
   | 6 => v = .int .i64 (k : Int)
   | 7 => v = .pointer (some ⟨w.heap.size + 1, 2, none⟩)
   | 8 => v = .int .i64 et
   | 9 => v = .pointer (some ⟨w.heap.size + 1, 3, none⟩)
   | 10 => v = .int .i64 etp
   | 11 => v = .bool tk2
   | 12 => v = .int .i64 ie
   | _ => True) (by kernel_rfl) (by kernel_rfl) (by kernel_rfl) (by kernel_rfl) ?_ ?_ ?_
  ·intro i w v w' h hb
   match i, h with
   | 0, h => exact h
   | 1, h => exact h
   | 2, h => exact h
   | 3, h => exact h
   | 4, h => exact h
   | 5, h => exact h
   | 6, h => exact h
   | 7, h => exact h
   | 8, h => exact h
   | 9, h => exact h
   | 10, h => exact h
   | 11, h => exact h
   | 12, h => exact h
   | _ + 13, _ => trivial
  ·intro i o ρ w' hi ho hb hc hf hfr zY
   have g0 := zX hb gy0
   have g1 := zX hb gy1
   have g2 := zX hb gy2
   have g3 := zX hb gy3
   have g4 := zX hb gy4
   have b0 := zX hb bc0
   have b1 := zX hb bc1
   have b2 := zX hb bc2
   have b3 := zX hb bc3
   match i, hi with
   | 0, _ =>
    simp only [qS] at ho
    subst ho
    have ts : ρ (.tmp 2) = .pointer (some ⟨w.heap.size, 0, none⟩) := hfr 2 (by kernel_rfl)
    simp [go_sem, ts, g0, g1, g2, g3, g4]
    exact qB
   | 1, _ =>
    simp only [qS] at ho
    subst ho
    have ts : ρ (.tmp 6) = .pointer (some ⟨w.heap.size + 1, 0, none⟩) := hfr 6 (by kernel_rfl)
    simp [go_sem, ts]
    exact qB
   | 2, _ =>
    simp only [qS] at ho
    subst ho
    have ts : ρ (.tmp 30) = .pointer (some ⟨w.heap.size + 1, 2, none⟩) := zY 1 30 (by kernel_rfl) (by kernel_rfl)
    simp [go_sem, ts, b2]
    exact qB
   | 3, _ =>
    simp only [qS] at ho
    subst ho
    have ts : ρ (.tmp 6) = .pointer (some ⟨w.heap.size + 1, 0, none⟩) := hfr 6 (by kernel_rfl)
    simp [go_sem, ts]
    exact qB
   | 4, _ =>
    simp only [qS] at ho
    subst ho
    have ts : ρ (.tmp 32) = .pointer (some ⟨w.heap.size + 1, 3, none⟩) := zY 3 32 (by kernel_rfl) (by kernel_rfl)
    simp [go_sem, ts, b3]
    exact qB
   | 5, _ =>
    simp only [qS] at ho
    subst ho
    have ts : ρ (.tmp 2) = .pointer (some ⟨w.heap.size, 0, none⟩) := hfr 2 (by kernel_rfl)
    simp [go_sem, ts, g0, g1, g2, g3, g4]
    exact qB
   | 6, _ =>
    simp only [qS] at ho
    subst ho
    have ts : ρ (.tmp 1) = .int .i64 (k : Int) := hfr 1 (by kernel_rfl)
    simp [go_sem, ts]
    exact qB
   | 7, _ =>
    simp only [qS] at ho
    subst ho
    have ts : ρ (.tmp 6) = .pointer (some ⟨w.heap.size + 1, 0, none⟩) := hfr 6 (by kernel_rfl)
    simp [go_sem, ts]
    exact qB
   | 8, _ =>
    simp only [qS] at ho
    subst ho
    have ts : ρ (.tmp 36) = .pointer (some ⟨w.heap.size + 1, 2, none⟩) := zY 7 36 (by kernel_rfl) (by kernel_rfl)
    simp [go_sem, ts, b2]
    exact qB
   | 9, _ =>
    simp only [qS] at ho
    subst ho
    have ts : ρ (.tmp 6) = .pointer (some ⟨w.heap.size + 1, 0, none⟩) := hfr 6 (by kernel_rfl)
    simp [go_sem, ts]
    exact qB
   | 10, _ =>
    simp only [qS] at ho
    subst ho
    have ts : ρ (.tmp 38) = .pointer (some ⟨w.heap.size + 1, 3, none⟩) := zY 9 38 (by kernel_rfl) (by kernel_rfl)
    simp [go_sem, ts, b3]
    exact qB
   | 11, _ =>
    simp only [qS] at ho
    subst ho
    have t0 : ρ (.tmp 34) = .agg #[.string (zW g.name), .slice a1 g.A.length c1, .slice (some ⟨b, off, none⟩) g.E.length c2, .slice a3 g.ins.length c3, .slice a4 g.outs.length c4] := zY 5 34 (by kernel_rfl) (by kernel_rfl)
    have t1 : ρ (.tmp 35) = .int .i64 (k : Int) := zY 6 35 (by kernel_rfl) (by kernel_rfl)
    have t2 : ρ (.tmp 37) = .int .i64 et := zY 8 37 (by kernel_rfl) (by kernel_rfl)
    have t3 : ρ (.tmp 39) = .int .i64 etp := zY 10 39 (by kernel_rfl) (by kernel_rfl)
    simp [go_sem, t0, t1, t2, t3, hf, hc]
    exact ⟨rfl, (ITV.out w' hb).mono fun e w'' hh => ⟨_, hh.1, hh.2, rfl⟩⟩
   | 12, _ =>
    simp only [qS] at ho
    subst ho
    have t0 : ρ (.tmp 29) = .agg #[.string (zW g.name), .slice a1 g.A.length c1, .slice (some ⟨b, off, none⟩) g.E.length c2, .slice a3 g.ins.length c3, .slice a4 g.outs.length c4] := zY 0 29 (by kernel_rfl) (by kernel_rfl)
    have t1 : ρ (.tmp 31) = .int .i64 et := zY 2 31 (by kernel_rfl) (by kernel_rfl)
    have t2 : ρ (.tmp 33) = .int .i64 etp := zY 4 33 (by kernel_rfl) (by kernel_rfl)
    have t3 : ρ (.tmp 40) = .bool tk2 := zY 11 40 (by kernel_rfl) (by kernel_rfl)
    simp [go_sem, t0, t1, t2, t3, hf, hc]
    exact ⟨rfl, (EIV.out w' hb).mono fun e w'' hh => ⟨_, hh.1, hh.2, rfl⟩⟩
  intro V9 w8 q8 hS
  have e0 : V9 0 = .agg #[.string (zW g.name), .slice a1 g.A.length c1, .slice (some ⟨b, off, none⟩) g.E.length c2, .slice a3 g.ins.length c3, .slice a4 g.outs.length c4] := hS 0 (by decide)
  have e1 : V9 1 = .pointer (some ⟨w.heap.size + 1, 2, none⟩) := hS 1 (by decide)
  have e2 : V9 2 = .int .i64 et := hS 2 (by decide)
  have e3 : V9 3 = .pointer (some ⟨w.heap.size + 1, 3, none⟩) := hS 3 (by decide)
  have e4 : V9 4 = .int .i64 etp := hS 4 (by decide)
  have e5 : V9 5 = .agg #[.string (zW g.name), .slice a1 g.A.length c1, .slice (some ⟨b, off, none⟩) g.E.length c2, .slice a3 g.ins.length c3, .slice a4 g.outs.length c4] := hS 5 (by decide)
  have e6 : V9 6 = .int .i64 (k : Int) := hS 6 (by decide)
  have e7 : V9 7 = .pointer (some ⟨w.heap.size + 1, 2, none⟩) := hS 7 (by decide)
  have e8 : V9 8 = .int .i64 et := hS 8 (by decide)
  have e9 : V9 9 = .pointer (some ⟨w.heap.size + 1, 3, none⟩) := hS 9 (by decide)
  have e10 : V9 10 = .int .i64 etp := hS 10 (by decide)
  have e11 : V9 11 = .bool tk2 := hS 11 (by decide)
  have e12 : V9 12 = .int .i64 ie := hS 12 (by decide)
  simp only [List.drop_succ_cons, List.drop_zero, List.take_succ_cons, List.take_zero, yL, e0, e1, e2, e3, e4, e5, e6, e7, e8, e9, e10, e11, e12]
  clear hS e0 e1 e2 e3 e4 e5 e6 e7 e8 e9 e10 e11 e12 V9
  simp only [Act.put, qU]
  have B8 := zZ (BW.out.trans (q8.mono BW.out.size))
  clear q8
  go_wp2
  refine bodyPost_ret (v := .tuple #[.int .i64 ie, .int .i64 2]) (by simp [results, Try.results51, go_sem]) rfl ?_
  exact ⟨by rw [HC.out, if_neg (by decide), if_pos h2]; rfl, B8.out⟩
 have h2 : (oe != 0) = true := by simpa using h1
 refine zP 13 (fun i u v => match i with
  | 0 => v = .agg #[.string (zW g.name), .slice a1 g.A.length c1, .slice (some ⟨b, off, none⟩) g.E.length c2, .slice a3 g.ins.length c3, .slice a4 g.outs.length c4]
  | 1 => v = .pointer (some ⟨w.heap.size + 1, 0, none⟩)
  | 2 => v = .int .i64 ef
  | 3 => v = .pointer (some ⟨w.heap.size + 1, 1, none⟩)
  | 4 => v = .int .i64 efp
  | 5 => v = .agg #[.string (zW g.name), .slice a1 g.A.length c1, .slice (some ⟨b, off, none⟩) g.E.length c2, .slice a3 g.ins.length c3, .slice a4 g.outs.length c4]
  | 6 => v = .int .i64 (k : Int)
  | 7 => v = .pointer (some ⟨w.heap.size + 1, 0, none⟩)
  | 8 => v = .int .i64 ef
  | 9 => v = .pointer (some ⟨w.heap.size + 1, 1, none⟩)
  | 10 => v = .int .i64 efp
  | 11 => v = .bool tk1
  | 12 => v = .int .i64 oe
  | _ => True) (by kernel_rfl) (by kernel_rfl) (by kernel_rfl) (by kernel_rfl) ?_ ?_ ?_
 ·intro i w v w' h hb
  match i, h with
  | 0, h => exact h
  | 1, h => exact h
  | 2, h => exact h
  | 3, h => exact h
  | 4, h => exact h
  | 5, h => exact h
  | 6, h => exact h
  | 7, h => exact h
  | 8, h => exact h
  | 9, h => exact h
  | 10, h => exact h
  | 11, h => exact h
  | 12, h => exact h
  | _ + 13, _ => trivial
 ·intro i o ρ w' hi ho hb hc hf hfr zY
  have g0 := zX hb gx0
  have g1 := zX hb gx1
  have g2 := zX hb gx2
  have g3 := zX hb gx3
  have g4 := zX hb gx4
  have b0 := zX hb bb0
  have b1 := zX hb bb1
  have b2 := zX hb bb2
  have b3 := zX hb bb3
  match i, hi with
  | 0, _ =>
   simp only [qS] at ho
   subst ho
   have ts : ρ (.tmp 2) = .pointer (some ⟨w.heap.size, 0, none⟩) := hfr 2 (by kernel_rfl)
   simp [go_sem, ts, g0, g1, g2, g3, g4]
   exact qB
  | 1, _ =>
   simp only [qS] at ho
   subst ho
   have ts : ρ (.tmp 6) = .pointer (some ⟨w.heap.size + 1, 0, none⟩) := hfr 6 (by kernel_rfl)
   simp [go_sem, ts]
   exact qB
  | 2, _ =>
   simp only [qS] at ho
   subst ho
   have ts : ρ (.tmp 14) = .pointer (some ⟨w.heap.size + 1, 0, none⟩) := zY 1 14 (by kernel_rfl) (by kernel_rfl)
   simp [go_sem, ts, b0]
   exact qB
  | 3, _ =>
   simp only [qS] at ho
   subst ho
   have ts : ρ (.tmp 6) = .pointer (some ⟨w.heap.size + 1, 0, none⟩) := hfr 6 (by kernel_rfl)
   simp [go_sem, ts]
   exact qB
  | 4, _ =>
   simp only [qS] at ho
   subst ho
   have ts : ρ (.tmp 16) = .pointer (some ⟨w.heap.size + 1, 1, none⟩) := zY 3 16 (by kernel_rfl) (by kernel_rfl)
   simp [go_sem, ts, b1]
   exact qB
  | 5, _ =>
   simp only [qS] at ho
   subst ho
   have ts : ρ (.tmp 2) = .pointer (some ⟨w.heap.size, 0, none⟩) := hfr 2 (by kernel_rfl)
   simp [go_sem, ts, g0, g1, g2, g3, g4]
   exact qB
  | 6, _ =>
   simp only [qS] at ho
   subst ho
   have ts : ρ (.tmp 1) = .int .i64 (k : Int) := hfr 1 (by kernel_rfl)
   simp [go_sem, ts]
   exact qB
  | 7, _ =>
   simp only [qS] at ho
   subst ho
   have ts : ρ (.tmp 6) = .pointer (some ⟨w.heap.size + 1, 0, none⟩) := hfr 6 (by kernel_rfl)
   simp [go_sem, ts]
   exact qB
  | 8, _ =>
   simp only [qS] at ho
   subst ho
   have ts : ρ (.tmp 20) = .pointer (some ⟨w.heap.size + 1, 0, none⟩) := zY 7 20 (by kernel_rfl) (by kernel_rfl)
   simp [go_sem, ts, b0]
   exact qB
  | 9, _ =>
   simp only [qS] at ho
   subst ho
   have ts : ρ (.tmp 6) = .pointer (some ⟨w.heap.size + 1, 0, none⟩) := hfr 6 (by kernel_rfl)
   simp [go_sem, ts]
   exact qB
  | 10, _ =>
   simp only [qS] at ho
   subst ho
   have ts : ρ (.tmp 22) = .pointer (some ⟨w.heap.size + 1, 1, none⟩) := zY 9 22 (by kernel_rfl) (by kernel_rfl)
   simp [go_sem, ts, b1]
   exact qB
  | 11, _ =>
   simp only [qS] at ho
   subst ho
   have t0 : ρ (.tmp 18) = .agg #[.string (zW g.name), .slice a1 g.A.length c1, .slice (some ⟨b, off, none⟩) g.E.length c2, .slice a3 g.ins.length c3, .slice a4 g.outs.length c4] := zY 5 18 (by kernel_rfl) (by kernel_rfl)
   have t1 : ρ (.tmp 19) = .int .i64 (k : Int) := zY 6 19 (by kernel_rfl) (by kernel_rfl)
   have t2 : ρ (.tmp 21) = .int .i64 ef := zY 8 21 (by kernel_rfl) (by kernel_rfl)
   have t3 : ρ (.tmp 23) = .int .i64 efp := zY 10 23 (by kernel_rfl) (by kernel_rfl)
   simp [go_sem, t0, t1, t2, t3, hf, hc]
   exact ⟨rfl, (OTV.out w' hb).mono fun e w'' hh => ⟨_, hh.1, hh.2, rfl⟩⟩
  | 12, _ =>
   simp only [qS] at ho
   subst ho
   have t0 : ρ (.tmp 13) = .agg #[.string (zW g.name), .slice a1 g.A.length c1, .slice (some ⟨b, off, none⟩) g.E.length c2, .slice a3 g.ins.length c3, .slice a4 g.outs.length c4] := zY 0 13 (by kernel_rfl) (by kernel_rfl)
   have t1 : ρ (.tmp 15) = .int .i64 ef := zY 2 15 (by kernel_rfl) (by kernel_rfl)
   have t2 : ρ (.tmp 17) = .int .i64 efp := zY 4 17 (by kernel_rfl) (by kernel_rfl)
   have t3 : ρ (.tmp 24) = .bool tk1 := zY 11 24 (by kernel_rfl) (by kernel_rfl)
   simp [go_sem, t0, t1, t2, t3, hf, hc]
   exact ⟨rfl, (EOV.out w' hb).mono fun e w'' hh => ⟨_, hh.1, hh.2, rfl⟩⟩
 intro V9 w9 q9 hS
 have e0 : V9 0 = .agg #[.string (zW g.name), .slice a1 g.A.length c1, .slice (some ⟨b, off, none⟩) g.E.length c2, .slice a3 g.ins.length c3, .slice a4 g.outs.length c4] := hS 0 (by decide)
 have e1 : V9 1 = .pointer (some ⟨w.heap.size + 1, 0, none⟩) := hS 1 (by decide)
 have e2 : V9 2 = .int .i64 ef := hS 2 (by decide)
 have e3 : V9 3 = .pointer (some ⟨w.heap.size + 1, 1, none⟩) := hS 3 (by decide)
 have e4 : V9 4 = .int .i64 efp := hS 4 (by decide)
 have e5 : V9 5 = .agg #[.string (zW g.name), .slice a1 g.A.length c1, .slice (some ⟨b, off, none⟩) g.E.length c2, .slice a3 g.ins.length c3, .slice a4 g.outs.length c4] := hS 5 (by decide)
 have e6 : V9 6 = .int .i64 (k : Int) := hS 6 (by decide)
 have e7 : V9 7 = .pointer (some ⟨w.heap.size + 1, 0, none⟩) := hS 7 (by decide)
 have e8 : V9 8 = .int .i64 ef := hS 8 (by decide)
 have e9 : V9 9 = .pointer (some ⟨w.heap.size + 1, 1, none⟩) := hS 9 (by decide)
 have e10 : V9 10 = .int .i64 efp := hS 10 (by decide)
 have e11 : V9 11 = .bool tk1 := hS 11 (by decide)
 have e12 : V9 12 = .int .i64 oe := hS 12 (by decide)
 simp only [List.drop_succ_cons, List.drop_zero, List.take_succ_cons, List.take_zero, yL, e0, e1, e2, e3, e4, e5, e6, e7, e8, e9, e10, e11, e12]
 clear hS e0 e1 e2 e3 e4 e5 e6 e7 e8 e9 e10 e11 e12 V9
 simp only [Act.put, qU]
 have B8 := zZ (BV.out.trans (q9.mono BV.out.size))
 clear q9
 go_wp2
 refine bodyPost_ret (v := .tuple #[.int .i64 oe, .int .i64 1]) (by simp [results, Try.results51, go_sem]) rfl ?_
 exact ⟨by rw [HC.out, if_pos h1]; rfl, B8.out⟩
theorem VV (g : GG) (a1 a2 a3 a4 : Option Addr) (c1 c2 c3 c4 : Nat) (k : Nat) (w : World) (h : sH w a1 a2 a3 a4 g) (hk : k < g.ins.length) :
 Calls Try.prog 52 #[.agg #[.string (zW g.name), .slice a1 g.A.length c1, .slice a2 g.E.length c2, .slice a3 g.ins.length c3, .slice a4 g.outs.length c4], .int .i64 (k : Int)] w fun e w' => e = .returned (.tuple #[.int .i64 (qG g k).1, .int .i64 ((qG g k).2 : Int)]) /\ Below w.heap.size w w' := by
 have hki : (k : Int) < (g.ins.length : Int) := by omega
 have n1 : (g.A.length : Int) <= 1000000000000000 := by have := h.l1; omega
 have n2 : (g.E.length : Int) <= 1000000000000000 := by have := h.l2; omega
 have n3 : (g.ins.length : Int) <= 1000000000000000 := by have := h.l3; omega
 have n4 : (g.outs.length : Int) <= 1000000000000000 := by have := h.l4; omega
 have ba := (Below.refl w.heap.size w).alloc (Nat.le_refl _) (.cells #[.string (zW g.name), .slice a1 g.A.length c1, .slice a2 g.E.length c2, .slice a3 g.ins.length c3, .slice a4 g.outs.length c4] 31)
 have HG := zZ h
 have NM : Hid (∀ U, Below w.heap.size w U -> Calls Try.prog 70 #[.agg #[.string (zW g.name), .slice a1 g.A.length c1, .slice a2 g.E.length c2, .slice a3 g.ins.length c3, .slice a4 g.outs.length c4], .int .i64 (g.A.length : Int), .int .i64 (k : Int), .int .i64 0, .string (zW (zF g.ins k).name)] U fun e w' => e = .returned (.bool (yX g g.A.length k 0 (zF g.ins k).name)) /\ Below U.heap.size U w') := fun U hb => oH g a1 a2 a3 a4 c1 c2 c3 c4 g.A.length k 0 _ U (HG.out.below hb) (Nat.le_refl _) (Nat.le_of_lt hk) (Nat.zero_le _)
 have RN : Hid (∀ U, Calls Try.prog 48 #[.string (zW (zF g.ins k).name)] U fun e w' => e = .returned (.bool (yM (zF g.ins k).name)) /\ U = w') := fun U => rE _ U
 have TK : Hid (∀ U, Below w.heap.size w U -> Calls Try.prog 74 #[.agg #[.string (zW g.name), .slice a1 g.A.length c1, .slice a2 g.E.length c2, .slice a3 g.ins.length c3, .slice a4 g.outs.length c4], .int .i64 (g.E.length : Int), .int .i64 (k : Int), .int .i64 (zF g.ins k).actor, .int .i64 (zF g.ins k).port] U fun e w' => e = .returned (.bool (vS g g.E.length k (zF g.ins k).actor (zF g.ins k).port)) /\ Below U.heap.size U w') := fun U hb => rU g a1 a2 a3 a4 c1 c2 c3 c4 g.E.length k _ _ U (HG.out.below hb) (Nat.le_refl _) (Nat.le_of_lt hk)
 have EN : Hid (∀ U, Below w.heap.size w U -> Calls Try.prog 72 #[.agg #[.string (zW g.name), .slice a1 g.A.length c1, .slice a2 g.E.length c2, .slice a3 g.ins.length c3, .slice a4 g.outs.length c4], .int .i64 (zF g.ins k).actor, .int .i64 (zF g.ins k).port, .bool false, .bool (vS g g.E.length k (zF g.ins k).actor (zF g.ins k).port)] U fun e w' => e = .returned (.int .i64 (tM g g.E.length k (zF g.ins k).actor (zF g.ins k).port)) /\ Below U.heap.size U w') := fun U hb => lS g a1 a2 a3 a4 c1 c2 c3 c4 _ _ false _ U (HG.out.below hb)
 have HC : Hid (qG g k = if yM (zF g.ins k).name = false then (82, 0) else if yX g g.A.length k 0 (zF g.ins k).name = true then (83, 0) else (tM g g.E.length k (zF g.ins k).actor (zF g.ins k).port, 2)) := by rfl
 have B0 := zZ (vP w #[.string (zW g.name), .slice a1 g.A.length c1, .slice a2 g.E.length c2, .slice a3 g.ins.length c3, .slice a4 g.outs.length c4])
 have y2 := B0.out.1.cell (k := 3) rfl
 obtain ⟨b, off, ha2, hc⟩ : ∃ b off, a3 = some ⟨b, off, none⟩ /\ ∀ j, j < g.ins.length -> _ := by
  rcases (h.below ba).I with e | q
  ·rw [e] at hk; exact absurd hk (Nat.not_lt_zero _)
  exact q
 obtain ⟨x0, x1, x2⟩ := hc k hk
 rw [ha2] at y2
 clear hc ba h
 generalize yX g g.A.length k 0 (zF g.ins k).name = q2 at *
 generalize tM g g.E.length k (zF g.ins k).actor (zF g.ins k).port = ev at *
 generalize vS g g.E.length k (zF g.ins k).actor (zF g.ins k).port = tk at *
 generalize zF g.ins k = E at *
 obtain ⟨en, ac, po⟩ := E
 simp only at x0 x1 x2 NM RN TK EN HC
 generalize yM en = q1 at *
 have bv := B0.out.2.trans (((Below.refl (w.alloc (.cells #[.string (zW g.name), .slice a1 g.A.length c1, .slice a2 g.E.length c2, .slice a3 g.ins.length c3, .slice a4 g.outs.length c4] 31)).heap.size (w.alloc (.cells #[.string (zW g.name), .slice a1 g.A.length c1, .slice a2 g.E.length c2, .slice a3 g.ins.length c3, .slice a4 g.outs.length c4] 31))).alloc (Nat.le_refl _) (.cells #[.string (zW en), .int .i64 ac, .int .i64 po] 83)).mono B0.out.2.size)
 have GB := zZ (B0.out.1.below ((Below.refl (w.alloc (.cells #[.string (zW g.name), .slice a1 g.A.length c1, .slice a2 g.E.length c2, .slice a3 g.ins.length c3, .slice a4 g.outs.length c4] 31)).heap.size (w.alloc (.cells #[.string (zW g.name), .slice a1 g.A.length c1, .slice a2 g.E.length c2, .slice a3 g.ins.length c3, .slice a4 g.outs.length c4] 31))).alloc (Nat.le_refl _) (.cells #[.string (zW en), .int .i64 ac, .int .i64 po] 83)))
 have BX : Hid (zN 83 (w.heap.size + 1) ((w.alloc (.cells #[.string (zW g.name), .slice a1 g.A.length c1, .slice a2 g.E.length c2, .slice a3 g.ins.length c3, .slice a4 g.outs.length c4] 31)).alloc (.cells #[.string (zW en), .int .i64 ac, .int .i64 po] 83)) #[.string (zW en), .int .i64 ac, .int .i64 po]) := by
  have q := zU 83 (w.alloc (.cells #[.string (zW g.name), .slice a1 g.A.length c1, .slice a2 g.E.length c2, .slice a3 g.ins.length c3, .slice a4 g.outs.length c4] 31)) #[.string (zW en), .int .i64 ac, .int .i64 po]
  rw [World.size_alloc] at q
  exact q
 have BV := zZ bv
 clear bv
 subst ha2
 go_enter Try.func52, Try.ntmps52
 go_upto_region 2 with fail
 generalize (w.alloc (.cells #[.string (zW g.name), .slice a1 g.A.length c1, .slice a2 g.E.length c2, .slice (some ⟨b, off, none⟩) g.ins.length c3, .slice a4 g.outs.length c4] 31)).alloc (.cells #[.string (zW en), .int .i64 ac, .int .i64 po] 83) = V at *
 have gx0 : V.cell? ⟨w.heap.size, 0, none⟩ = some (.string (zW g.name)) := (GB.out).cell rfl
 have gx1 : V.cell? ⟨w.heap.size, 1, none⟩ = some (.slice a1 g.A.length c1) := (GB.out).cell rfl
 have gx2 : V.cell? ⟨w.heap.size, 2, none⟩ = some (.slice a2 g.E.length c2) := (GB.out).cell rfl
 have gx3 : V.cell? ⟨w.heap.size, 3, none⟩ = some (.slice (some ⟨b, off, none⟩) g.ins.length c3) := (GB.out).cell rfl
 have gx4 : V.cell? ⟨w.heap.size, 4, none⟩ = some (.slice a4 g.outs.length c4) := (GB.out).cell rfl
 have bb0 := BX.out.cell (k := 0) rfl
 have bb1 := BX.out.cell (k := 1) rfl
 have bb2 := BX.out.cell (k := 2) rfl
 clear x0 x1 x2 y2
 cases q1
 ·go_wp2_with (go_at_call 48; (with_reducible refine (RN.out _).mono ?_); rintro e w' ⟨rfl, rfl⟩)
  refine bodyPost_ret (v := .tuple #[.int .i64 82, .int .i64 0]) (by simp [results, Try.results52, go_sem]) rfl ?_
  exact ⟨by rw [HC.out]; rfl, BV.out⟩
 cases q2
 ·go_upto_region 6 with (first
   | (go_at_call 70; (with_reducible refine (NM.out _ BV.out).mono ?_); rintro e w2 ⟨rfl, b2⟩; have B2 := zZ b2; clear b2)
   | (go_at_call 48; (with_reducible refine (RN.out _).mono ?_); rintro e w' ⟨rfl, rfl⟩))
  have BW := zZ (BV.out.trans (B2.out.mono BV.out.size))
  have gy0 := zX B2.out gx0
  have gy1 := zX B2.out gx1
  have gy2 := zX B2.out gx2
  have gy3 := zX B2.out gx3
  have gy4 := zX B2.out gx4
  have bc0 := zX B2.out bb0
  have bc1 := zX B2.out bb1
  have bc2 := zX B2.out bb2
  have TKV : Hid (∀ U, Below w2.heap.size w2 U -> Calls Try.prog 74 #[.agg #[.string (zW g.name), .slice a1 g.A.length c1, .slice a2 g.E.length c2, .slice (some ⟨b, off, none⟩) g.ins.length c3, .slice a4 g.outs.length c4], .int .i64 (g.E.length : Int), .int .i64 (k : Int), .int .i64 ac, .int .i64 po] U fun e w' => e = .returned (.bool tk) /\ Below U.heap.size U w') := fun U hb => TK.out U (BW.out.trans (hb.mono BW.out.size))
  have ENV : Hid (∀ U, Below w2.heap.size w2 U -> Calls Try.prog 72 #[.agg #[.string (zW g.name), .slice a1 g.A.length c1, .slice a2 g.E.length c2, .slice (some ⟨b, off, none⟩) g.ins.length c3, .slice a4 g.outs.length c4], .int .i64 ac, .int .i64 po, .bool false, .bool tk] U fun e w' => e = .returned (.int .i64 ev) /\ Below U.heap.size U w') := fun U hb => EN.out U (BW.out.trans (hb.mono BW.out.size))
  clear gx0 gx1 gx2 gx3 gx4 bb0 bb1 bb2
  refine zP 16 (fun i u v => match i with
   | 0 => v = .agg #[.string (zW g.name), .slice a1 g.A.length c1, .slice a2 g.E.length c2, .slice (some ⟨b, off, none⟩) g.ins.length c3, .slice a4 g.outs.length c4]
   | 1 => v = .pointer (some ⟨w.heap.size + 1, 1, none⟩)
   | 2 => v = .int .i64 ac
   | 3 => v = .pointer (some ⟨w.heap.size + 1, 2, none⟩)
   | 4 => v = .int .i64 po
   | 5 => v = .agg #[.string (zW g.name), .slice a1 g.A.length c1, .slice a2 g.E.length c2, .slice (some ⟨b, off, none⟩) g.ins.length c3, .slice a4 g.outs.length c4]
   | 6 => v = .pointer (some ⟨w.heap.size, 2, none⟩)
   | 7 => v = .slice a2 g.E.length c2
   | 8 => v = .int .i64 (g.E.length : Int)
   | 9 => v = .int .i64 (k : Int)
   | 10 => v = .pointer (some ⟨w.heap.size + 1, 1, none⟩)
   | 11 => v = .int .i64 ac
   | 12 => v = .pointer (some ⟨w.heap.size + 1, 2, none⟩)
   | 13 => v = .int .i64 po
   | 14 => v = .bool tk
   | 15 => v = .int .i64 ev
   | _ => True) (by kernel_rfl) (by kernel_rfl) (by kernel_rfl) (by kernel_rfl) ?_ ?_ ?_
  ·intro i w v w' h hb
   match i, h with
   | 0, h => exact h
   | 1, h => exact h
   | 2, h => exact h
   | 3, h => exact h
   | 4, h => exact h
   | 5, h => exact h
   | 6, h => exact h
   | 7, h => exact h
   | 8, h => exact h
   | 9, h => exact h
   | 10, h => exact h
   | 11, h => exact h
   | 12, h => exact h
   | 13, h => exact h
   | 14, h => exact h
   | 15, h => exact h
   | _ + 16, _ => trivial
  ·intro i o ρ w' hi ho hb hc hf hfr zY
   have g0 := zX hb gy0
   have g1 := zX hb gy1
   have g2 := zX hb gy2
   have g3 := zX hb gy3
   have g4 := zX hb gy4
   have b0 := zX hb bc0
   have b1 := zX hb bc1
   have b2 := zX hb bc2
   match i, hi with
   | 0, _ =>
    simp only [qS] at ho
    subst ho
    have ts : ρ (.tmp 2) = .pointer (some ⟨w.heap.size, 0, none⟩) := hfr 2 (by kernel_rfl)
    simp [go_sem, ts, g0, g1, g2, g3, g4]
    exact qB
   | 1, _ =>
    simp only [qS] at ho
    subst ho
    have ts : ρ (.tmp 6) = .pointer (some ⟨w.heap.size + 1, 0, none⟩) := hfr 6 (by kernel_rfl)
    simp [go_sem, ts]
    exact qB
   | 2, _ =>
    simp only [qS] at ho
    subst ho
    have ts : ρ (.tmp 25) = .pointer (some ⟨w.heap.size + 1, 1, none⟩) := zY 1 25 (by kernel_rfl) (by kernel_rfl)
    simp [go_sem, ts, b1]
    exact qB
   | 3, _ =>
    simp only [qS] at ho
    subst ho
    have ts : ρ (.tmp 6) = .pointer (some ⟨w.heap.size + 1, 0, none⟩) := hfr 6 (by kernel_rfl)
    simp [go_sem, ts]
    exact qB
   | 4, _ =>
    simp only [qS] at ho
    subst ho
    have ts : ρ (.tmp 27) = .pointer (some ⟨w.heap.size + 1, 2, none⟩) := zY 3 27 (by kernel_rfl) (by kernel_rfl)
    simp [go_sem, ts, b2]
    exact qB
   | 5, _ =>
    simp only [qS] at ho
    subst ho
    have ts : ρ (.tmp 2) = .pointer (some ⟨w.heap.size, 0, none⟩) := hfr 2 (by kernel_rfl)
    simp [go_sem, ts, g0, g1, g2, g3, g4]
    exact qB
   | 6, _ =>
    simp only [qS] at ho
    subst ho
    have ts : ρ (.tmp 2) = .pointer (some ⟨w.heap.size, 0, none⟩) := hfr 2 (by kernel_rfl)
    simp [go_sem, ts]
    exact qB
   | 7, _ =>
    simp only [qS] at ho
    subst ho
    have ts : ρ (.tmp 30) = .pointer (some ⟨w.heap.size, 2, none⟩) := zY 6 30 (by kernel_rfl) (by kernel_rfl)
    simp [go_sem, ts, g2]
    exact qB
   | 8, _ =>
    simp only [qS] at ho
    subst ho
    have ts : ρ (.tmp 31) = .slice a2 g.E.length c2 := zY 7 31 (by kernel_rfl) (by kernel_rfl)
    simp [go_sem, ts]
    exact qB
   | 9, _ =>
    simp only [qS] at ho
    subst ho
    have ts : ρ (.tmp 1) = .int .i64 (k : Int) := hfr 1 (by kernel_rfl)
    simp [go_sem, ts]
    exact qB
   | 10, _ =>
    simp only [qS] at ho
    subst ho
    have ts : ρ (.tmp 6) = .pointer (some ⟨w.heap.size + 1, 0, none⟩) := hfr 6 (by kernel_rfl)
    simp [go_sem, ts]
    exact qB
   | 11, _ =>
    simp only [qS] at ho
    subst ho
    have ts : ρ (.tmp 34) = .pointer (some ⟨w.heap.size + 1, 1, none⟩) := zY 10 34 (by kernel_rfl) (by kernel_rfl)
    simp [go_sem, ts, b1]
    exact qB
   | 12, _ =>
    simp only [qS] at ho
    subst ho
    have ts : ρ (.tmp 6) = .pointer (some ⟨w.heap.size + 1, 0, none⟩) := hfr 6 (by kernel_rfl)
    simp [go_sem, ts]
    exact qB
   | 13, _ =>
    simp only [qS] at ho
    subst ho
    have ts : ρ (.tmp 36) = .pointer (some ⟨w.heap.size + 1, 2, none⟩) := zY 12 36 (by kernel_rfl) (by kernel_rfl)
    simp [go_sem, ts, b2]
    exact qB
   | 14, _ =>
    simp only [qS] at ho
    subst ho
    have t0 : ρ (.tmp 29) = .agg #[.string (zW g.name), .slice a1 g.A.length c1, .slice a2 g.E.length c2, .slice (some ⟨b, off, none⟩) g.ins.length c3, .slice a4 g.outs.length c4] := zY 5 29 (by kernel_rfl) (by kernel_rfl)
    have t1 : ρ (.tmp 32) = .int .i64 (g.E.length : Int) := zY 8 32 (by kernel_rfl) (by kernel_rfl)
    have t2 : ρ (.tmp 33) = .int .i64 (k : Int) := zY 9 33 (by kernel_rfl) (by kernel_rfl)
    have t3 : ρ (.tmp 35) = .int .i64 ac := zY 11 35 (by kernel_rfl) (by kernel_rfl)
    have t4 : ρ (.tmp 37) = .int .i64 po := zY 13 37 (by kernel_rfl) (by kernel_rfl)
    simp [go_sem, t0, t1, t2, t3, t4, hf]
    exact ⟨rfl, (TKV.out w' hb).mono fun e w'' hh => ⟨_, hh.1, hh.2, rfl⟩⟩
   | 15, _ =>
    simp only [qS] at ho
    subst ho
    have t0 : ρ (.tmp 24) = .agg #[.string (zW g.name), .slice a1 g.A.length c1, .slice a2 g.E.length c2, .slice (some ⟨b, off, none⟩) g.ins.length c3, .slice a4 g.outs.length c4] := zY 0 24 (by kernel_rfl) (by kernel_rfl)
    have t1 : ρ (.tmp 26) = .int .i64 ac := zY 2 26 (by kernel_rfl) (by kernel_rfl)
    have t2 : ρ (.tmp 28) = .int .i64 po := zY 4 28 (by kernel_rfl) (by kernel_rfl)
    have t3 : ρ (.tmp 38) = .bool tk := zY 14 38 (by kernel_rfl) (by kernel_rfl)
    simp [go_sem, t0, t1, t2, t3, hf, hc]
    exact ⟨rfl, (ENV.out w' hb).mono fun e w'' hh => ⟨_, hh.1, hh.2, rfl⟩⟩
   | k + 16, h => exact absurd h (by omega)
  intro V9 w9 q9 hS
  have e0 : V9 0 = .agg #[.string (zW g.name), .slice a1 g.A.length c1, .slice a2 g.E.length c2, .slice (some ⟨b, off, none⟩) g.ins.length c3, .slice a4 g.outs.length c4] := hS 0 (by decide)
  have e1 : V9 1 = .pointer (some ⟨w.heap.size + 1, 1, none⟩) := hS 1 (by decide)
  have e2 : V9 2 = .int .i64 ac := hS 2 (by decide)
  have e3 : V9 3 = .pointer (some ⟨w.heap.size + 1, 2, none⟩) := hS 3 (by decide)
  have e4 : V9 4 = .int .i64 po := hS 4 (by decide)
  have e5 : V9 5 = .agg #[.string (zW g.name), .slice a1 g.A.length c1, .slice a2 g.E.length c2, .slice (some ⟨b, off, none⟩) g.ins.length c3, .slice a4 g.outs.length c4] := hS 5 (by decide)
  have e6 : V9 6 = .pointer (some ⟨w.heap.size, 2, none⟩) := hS 6 (by decide)
  have e7 : V9 7 = .slice a2 g.E.length c2 := hS 7 (by decide)
  have e8 : V9 8 = .int .i64 (g.E.length : Int) := hS 8 (by decide)
  have e9 : V9 9 = .int .i64 (k : Int) := hS 9 (by decide)
  have e10 : V9 10 = .pointer (some ⟨w.heap.size + 1, 1, none⟩) := hS 10 (by decide)
  have e11 : V9 11 = .int .i64 ac := hS 11 (by decide)
  have e12 : V9 12 = .pointer (some ⟨w.heap.size + 1, 2, none⟩) := hS 12 (by decide)
  have e13 : V9 13 = .int .i64 po := hS 13 (by decide)
  have e14 : V9 14 = .bool tk := hS 14 (by decide)
  have e15 : V9 15 = .int .i64 ev := hS 15 (by decide)
  simp only [List.drop_succ_cons, List.drop_zero, List.take_succ_cons, List.take_zero, yL, e0, e1, e2, e3, e4, e5, e6, e7, e8, e9, e10, e11, e12, e13, e14, e15]
  clear hS e0 e1 e2 e3 e4 e5 e6 e7 e8 e9 e10 e11 e12 e13 e14 e15 V9
  simp only [Act.put, qU]
  have B8 := zZ (BW.out.trans (q9.mono BW.out.size))
  clear q9
  go_wp2
  refine bodyPost_ret (v := .tuple #[.int .i64 ev, .int .i64 2]) (by simp [results, Try.results52, go_sem]) rfl ?_
  exact ⟨by rw [HC.out]; rfl, B8.out⟩
 go_wp2_with (first
  | (go_at_call 70; (with_reducible refine (NM.out _ BV.out).mono ?_); rintro e w2 ⟨rfl, b2⟩; have B2 := zZ b2; clear b2)
  | (go_at_call 48; (with_reducible refine (RN.out _).mono ?_); rintro e w' ⟨rfl, rfl⟩))
 refine bodyPost_ret (v := .tuple #[.int .i64 83, .int .i64 0]) (by simp [results, Try.results52, go_sem]) rfl ?_
 exact ⟨by rw [HC.out]; rfl, BV.out.trans (B2.out.mono BV.out.size)⟩
theorem YT (g : GG) (a1 a2 a3 a4 : Option Addr) (c1 c2 c3 c4 : Nat) (k : Nat) (w : World) (h : sH w a1 a2 a3 a4 g) (hk : k < g.outs.length) :
 Calls Try.prog 53 #[.agg #[.string (zW g.name), .slice a1 g.A.length c1, .slice a2 g.E.length c2, .slice a3 g.ins.length c3, .slice a4 g.outs.length c4], .int .i64 (k : Int)] w fun e w' => e = .returned (.tuple #[.int .i64 (wA g k).1, .int .i64 ((wA g k).2 : Int)]) /\ Below w.heap.size w w' := by
 have hki : (k : Int) < (g.outs.length : Int) := by omega
 have n1 : (g.A.length : Int) <= 1000000000000000 := by have := h.l1; omega
 have n2 : (g.E.length : Int) <= 1000000000000000 := by have := h.l2; omega
 have n3 : (g.ins.length : Int) <= 1000000000000000 := by have := h.l3; omega
 have n4 : (g.outs.length : Int) <= 1000000000000000 := by have := h.l4; omega
 have ba := (Below.refl w.heap.size w).alloc (Nat.le_refl _) (.cells #[.string (zW g.name), .slice a1 g.A.length c1, .slice a2 g.E.length c2, .slice a3 g.ins.length c3, .slice a4 g.outs.length c4] 31)
 have HG := zZ h
 have NM : Hid (∀ U, Below w.heap.size w U -> Calls Try.prog 70 #[.agg #[.string (zW g.name), .slice a1 g.A.length c1, .slice a2 g.E.length c2, .slice a3 g.ins.length c3, .slice a4 g.outs.length c4], .int .i64 (g.A.length : Int), .int .i64 (g.ins.length : Int), .int .i64 (k : Int), .string (zW (zF g.outs k).name)] U fun e w' => e = .returned (.bool (yX g g.A.length g.ins.length k (zF g.outs k).name)) /\ Below U.heap.size U w') := fun U hb => oH g a1 a2 a3 a4 c1 c2 c3 c4 g.A.length g.ins.length k _ U (HG.out.below hb) (Nat.le_refl _) (Nat.le_refl _) (Nat.le_of_lt hk)
 have RN : Hid (∀ U, Calls Try.prog 48 #[.string (zW (zF g.outs k).name)] U fun e w' => e = .returned (.bool (yM (zF g.outs k).name)) /\ U = w') := fun U => rE _ U
 have TK : Hid (∀ U, Below w.heap.size w U -> Calls Try.prog 73 #[.agg #[.string (zW g.name), .slice a1 g.A.length c1, .slice a2 g.E.length c2, .slice a3 g.ins.length c3, .slice a4 g.outs.length c4], .int .i64 (g.E.length : Int), .int .i64 (k : Int), .int .i64 (zF g.outs k).actor, .int .i64 (zF g.outs k).port] U fun e w' => e = .returned (.bool (xI g g.E.length k (zF g.outs k).actor (zF g.outs k).port)) /\ Below U.heap.size U w') := fun U hb => sP g a1 a2 a3 a4 c1 c2 c3 c4 g.E.length k _ _ U (HG.out.below hb) (Nat.le_refl _) (Nat.le_of_lt hk)
 have EN : Hid (∀ U, Below w.heap.size w U -> Calls Try.prog 72 #[.agg #[.string (zW g.name), .slice a1 g.A.length c1, .slice a2 g.E.length c2, .slice a3 g.ins.length c3, .slice a4 g.outs.length c4], .int .i64 (zF g.outs k).actor, .int .i64 (zF g.outs k).port, .bool true, .bool (xI g g.E.length k (zF g.outs k).actor (zF g.outs k).port)] U fun e w' => e = .returned (.int .i64 (vM g g.E.length k (zF g.outs k).actor (zF g.outs k).port)) /\ Below U.heap.size U w') := fun U hb => lS g a1 a2 a3 a4 c1 c2 c3 c4 _ _ true _ U (HG.out.below hb)
 have HC : Hid (wA g k = if yM (zF g.outs k).name = false then (82, 0) else if yX g g.A.length g.ins.length k (zF g.outs k).name = true then (83, 0) else (vM g g.E.length k (zF g.outs k).actor (zF g.outs k).port, 1)) := by rfl
 have B0 := zZ (vP w #[.string (zW g.name), .slice a1 g.A.length c1, .slice a2 g.E.length c2, .slice a3 g.ins.length c3, .slice a4 g.outs.length c4])
 have y2 := B0.out.1.cell (k := 4) rfl
 obtain ⟨b, off, ha2, hc⟩ : ∃ b off, a4 = some ⟨b, off, none⟩ /\ ∀ j, j < g.outs.length -> _ := by
  rcases (h.below ba).O with e | q
  ·rw [e] at hk; exact absurd hk (Nat.not_lt_zero _)
  exact q
 obtain ⟨x0, x1, x2⟩ := hc k hk
 rw [ha2] at y2
 clear hc ba h
 generalize yX g g.A.length g.ins.length k (zF g.outs k).name = q2 at *
 generalize vM g g.E.length k (zF g.outs k).actor (zF g.outs k).port = ev at *
 generalize xI g g.E.length k (zF g.outs k).actor (zF g.outs k).port = tk at *
 generalize zF g.outs k = E at *
 obtain ⟨en, ac, po⟩ := E
 simp only at x0 x1 x2 NM RN TK EN HC
 generalize yM en = q1 at *
 have bv := B0.out.2.trans (((Below.refl (w.alloc (.cells #[.string (zW g.name), .slice a1 g.A.length c1, .slice a2 g.E.length c2, .slice a3 g.ins.length c3, .slice a4 g.outs.length c4] 31)).heap.size (w.alloc (.cells #[.string (zW g.name), .slice a1 g.A.length c1, .slice a2 g.E.length c2, .slice a3 g.ins.length c3, .slice a4 g.outs.length c4] 31))).alloc (Nat.le_refl _) (.cells #[.string (zW en), .int .i64 ac, .int .i64 po] 83)).mono B0.out.2.size)
 have GB := zZ (B0.out.1.below ((Below.refl (w.alloc (.cells #[.string (zW g.name), .slice a1 g.A.length c1, .slice a2 g.E.length c2, .slice a3 g.ins.length c3, .slice a4 g.outs.length c4] 31)).heap.size (w.alloc (.cells #[.string (zW g.name), .slice a1 g.A.length c1, .slice a2 g.E.length c2, .slice a3 g.ins.length c3, .slice a4 g.outs.length c4] 31))).alloc (Nat.le_refl _) (.cells #[.string (zW en), .int .i64 ac, .int .i64 po] 83)))
 have BX : Hid (zN 83 (w.heap.size + 1) ((w.alloc (.cells #[.string (zW g.name), .slice a1 g.A.length c1, .slice a2 g.E.length c2, .slice a3 g.ins.length c3, .slice a4 g.outs.length c4] 31)).alloc (.cells #[.string (zW en), .int .i64 ac, .int .i64 po] 83)) #[.string (zW en), .int .i64 ac, .int .i64 po]) := by
  have q := zU 83 (w.alloc (.cells #[.string (zW g.name), .slice a1 g.A.length c1, .slice a2 g.E.length c2, .slice a3 g.ins.length c3, .slice a4 g.outs.length c4] 31)) #[.string (zW en), .int .i64 ac, .int .i64 po]
  rw [World.size_alloc] at q
  exact q
 have BV := zZ bv
 clear bv
 subst ha2
 go_enter Try.func53, Try.ntmps53
 go_upto_region 2 with fail
 generalize (w.alloc (.cells #[.string (zW g.name), .slice a1 g.A.length c1, .slice a2 g.E.length c2, .slice a3 g.ins.length c3, .slice (some ⟨b, off, none⟩) g.outs.length c4] 31)).alloc (.cells #[.string (zW en), .int .i64 ac, .int .i64 po] 83) = V at *
 have gx0 : V.cell? ⟨w.heap.size, 0, none⟩ = some (.string (zW g.name)) := (GB.out).cell rfl
 have gx1 : V.cell? ⟨w.heap.size, 1, none⟩ = some (.slice a1 g.A.length c1) := (GB.out).cell rfl
 have gx2 : V.cell? ⟨w.heap.size, 2, none⟩ = some (.slice a2 g.E.length c2) := (GB.out).cell rfl
 have gx3 : V.cell? ⟨w.heap.size, 3, none⟩ = some (.slice a3 g.ins.length c3) := (GB.out).cell rfl
 have gx4 : V.cell? ⟨w.heap.size, 4, none⟩ = some (.slice (some ⟨b, off, none⟩) g.outs.length c4) := (GB.out).cell rfl
 have bb0 := BX.out.cell (k := 0) rfl
 have bb1 := BX.out.cell (k := 1) rfl
 have bb2 := BX.out.cell (k := 2) rfl
 clear x0 x1 x2 y2
 cases q1
 ·go_wp2_with (go_at_call 48; (with_reducible refine (RN.out _).mono ?_); rintro e w' ⟨rfl, rfl⟩)
  refine bodyPost_ret (v := .tuple #[.int .i64 82, .int .i64 0]) (by simp [results, Try.results53, go_sem]) rfl ?_
  exact ⟨by rw [HC.out]; rfl, BV.out⟩
 cases q2
 ·go_upto_region 6 with (first
   | (go_at_call 70; (with_reducible refine (NM.out _ BV.out).mono ?_); rintro e w2 ⟨rfl, b2⟩; have B2 := zZ b2; clear b2)
   | (go_at_call 48; (with_reducible refine (RN.out _).mono ?_); rintro e w' ⟨rfl, rfl⟩))
  have BW := zZ (BV.out.trans (B2.out.mono BV.out.size))
  have gy0 := zX B2.out gx0
  have gy1 := zX B2.out gx1
  have gy2 := zX B2.out gx2
  have gy3 := zX B2.out gx3
  have gy4 := zX B2.out gx4
  have bc0 := zX B2.out bb0
  have bc1 := zX B2.out bb1
  have bc2 := zX B2.out bb2
  have TKV : Hid (∀ U, Below w2.heap.size w2 U -> Calls Try.prog 73 #[.agg #[.string (zW g.name), .slice a1 g.A.length c1, .slice a2 g.E.length c2, .slice a3 g.ins.length c3, .slice (some ⟨b, off, none⟩) g.outs.length c4], .int .i64 (g.E.length : Int), .int .i64 (k : Int), .int .i64 ac, .int .i64 po] U fun e w' => e = .returned (.bool tk) /\ Below U.heap.size U w') := fun U hb => TK.out U (BW.out.trans (hb.mono BW.out.size))
  have ENV : Hid (∀ U, Below w2.heap.size w2 U -> Calls Try.prog 72 #[.agg #[.string (zW g.name), .slice a1 g.A.length c1, .slice a2 g.E.length c2, .slice a3 g.ins.length c3, .slice (some ⟨b, off, none⟩) g.outs.length c4], .int .i64 ac, .int .i64 po, .bool true, .bool tk] U fun e w' => e = .returned (.int .i64 ev) /\ Below U.heap.size U w') := fun U hb => EN.out U (BW.out.trans (hb.mono BW.out.size))
  clear gx0 gx1 gx2 gx3 gx4 bb0 bb1 bb2
  refine zP 16 (fun i u v => match i with
   | 0 => v = .agg #[.string (zW g.name), .slice a1 g.A.length c1, .slice a2 g.E.length c2, .slice a3 g.ins.length c3, .slice (some ⟨b, off, none⟩) g.outs.length c4]
   | 1 => v = .pointer (some ⟨w.heap.size + 1, 1, none⟩)
   | 2 => v = .int .i64 ac
   | 3 => v = .pointer (some ⟨w.heap.size + 1, 2, none⟩)
   | 4 => v = .int .i64 po
   | 5 => v = .agg #[.string (zW g.name), .slice a1 g.A.length c1, .slice a2 g.E.length c2, .slice a3 g.ins.length c3, .slice (some ⟨b, off, none⟩) g.outs.length c4]
   | 6 => v = .pointer (some ⟨w.heap.size, 2, none⟩)
   | 7 => v = .slice a2 g.E.length c2
   | 8 => v = .int .i64 (g.E.length : Int)
   | 9 => v = .int .i64 (k : Int)
   | 10 => v = .pointer (some ⟨w.heap.size + 1, 1, none⟩)
   | 11 => v = .int .i64 ac
   | 12 => v = .pointer (some ⟨w.heap.size + 1, 2, none⟩)
   | 13 => v = .int .i64 po
   | 14 => v = .bool tk
   | 15 => v = .int .i64 ev
   | _ => True) (by kernel_rfl) (by kernel_rfl) (by kernel_rfl) (by kernel_rfl) ?_ ?_ ?_
  ·intro i w v w' h hb
   match i, h with
   | 0, h => exact h
   | 1, h => exact h
   | 2, h => exact h
   | 3, h => exact h
   | 4, h => exact h
   | 5, h => exact h
   | 6, h => exact h
   | 7, h => exact h
   | 8, h => exact h
   | 9, h => exact h
   | 10, h => exact h
   | 11, h => exact h
   | 12, h => exact h
   | 13, h => exact h
   | 14, h => exact h
   | 15, h => exact h
   | _ + 16, _ => trivial
  ·intro i o ρ w' hi ho hb hc hf hfr zY
   have g0 := zX hb gy0
   have g1 := zX hb gy1
   have g2 := zX hb gy2
   have g3 := zX hb gy3
   have g4 := zX hb gy4
   have b0 := zX hb bc0
   have b1 := zX hb bc1
   have b2 := zX hb bc2
   match i, hi with
   | 0, _ =>
    simp only [qS] at ho
    subst ho
    have ts : ρ (.tmp 2) = .pointer (some ⟨w.heap.size, 0, none⟩) := hfr 2 (by kernel_rfl)
    simp [go_sem, ts, g0, g1, g2, g3, g4]
    exact qB
   | 1, _ =>
    simp only [qS] at ho
    subst ho
    have ts : ρ (.tmp 6) = .pointer (some ⟨w.heap.size + 1, 0, none⟩) := hfr 6 (by kernel_rfl)
    simp [go_sem, ts]
    exact qB
   | 2, _ =>
    simp only [qS] at ho
    subst ho
    have ts : ρ (.tmp 28) = .pointer (some ⟨w.heap.size + 1, 1, none⟩) := zY 1 28 (by kernel_rfl) (by kernel_rfl)
    simp [go_sem, ts, b1]
    exact qB
   | 3, _ =>
    simp only [qS] at ho
    subst ho
    have ts : ρ (.tmp 6) = .pointer (some ⟨w.heap.size + 1, 0, none⟩) := hfr 6 (by kernel_rfl)
    simp [go_sem, ts]
    exact qB
   | 4, _ =>
    simp only [qS] at ho
    subst ho
    have ts : ρ (.tmp 30) = .pointer (some ⟨w.heap.size + 1, 2, none⟩) := zY 3 30 (by kernel_rfl) (by kernel_rfl)
    simp [go_sem, ts, b2]
    exact qB
   | 5, _ =>
    simp only [qS] at ho
    subst ho
    have ts : ρ (.tmp 2) = .pointer (some ⟨w.heap.size, 0, none⟩) := hfr 2 (by kernel_rfl)
    simp [go_sem, ts, g0, g1, g2, g3, g4]
    exact qB
   | 6, _ =>
    simp only [qS] at ho
    subst ho
    have ts : ρ (.tmp 2) = .pointer (some ⟨w.heap.size, 0, none⟩) := hfr 2 (by kernel_rfl)
    simp [go_sem, ts]
    exact qB
   | 7, _ =>
    simp only [qS] at ho
    subst ho
    have ts : ρ (.tmp 33) = .pointer (some ⟨w.heap.size, 2, none⟩) := zY 6 33 (by kernel_rfl) (by kernel_rfl)
    simp [go_sem, ts, g2]
    exact qB
   | 8, _ =>
    simp only [qS] at ho
    subst ho
    have ts : ρ (.tmp 34) = .slice a2 g.E.length c2 := zY 7 34 (by kernel_rfl) (by kernel_rfl)
    simp [go_sem, ts]
    exact qB
   | 9, _ =>
    simp only [qS] at ho
    subst ho
    have ts : ρ (.tmp 1) = .int .i64 (k : Int) := hfr 1 (by kernel_rfl)
    simp [go_sem, ts]
    exact qB
   | 10, _ =>
    simp only [qS] at ho
    subst ho
    have ts : ρ (.tmp 6) = .pointer (some ⟨w.heap.size + 1, 0, none⟩) := hfr 6 (by kernel_rfl)
    simp [go_sem, ts]
    exact qB
   | 11, _ =>
    simp only [qS] at ho
    subst ho
    have ts : ρ (.tmp 37) = .pointer (some ⟨w.heap.size + 1, 1, none⟩) := zY 10 37 (by kernel_rfl) (by kernel_rfl)
    simp [go_sem, ts, b1]
    exact qB
   | 12, _ =>
    simp only [qS] at ho
    subst ho
    have ts : ρ (.tmp 6) = .pointer (some ⟨w.heap.size + 1, 0, none⟩) := hfr 6 (by kernel_rfl)
    simp [go_sem, ts]
    exact qB
   | 13, _ =>
    simp only [qS] at ho
    subst ho
    have ts : ρ (.tmp 39) = .pointer (some ⟨w.heap.size + 1, 2, none⟩) := zY 12 39 (by kernel_rfl) (by kernel_rfl)
    simp [go_sem, ts, b2]
    exact qB
   | 14, _ =>
    simp only [qS] at ho
    subst ho
    have t0 : ρ (.tmp 32) = .agg #[.string (zW g.name), .slice a1 g.A.length c1, .slice a2 g.E.length c2, .slice a3 g.ins.length c3, .slice (some ⟨b, off, none⟩) g.outs.length c4] := zY 5 32 (by kernel_rfl) (by kernel_rfl)
    have t1 : ρ (.tmp 35) = .int .i64 (g.E.length : Int) := zY 8 35 (by kernel_rfl) (by kernel_rfl)
    have t2 : ρ (.tmp 36) = .int .i64 (k : Int) := zY 9 36 (by kernel_rfl) (by kernel_rfl)
    have t3 : ρ (.tmp 38) = .int .i64 ac := zY 11 38 (by kernel_rfl) (by kernel_rfl)
    have t4 : ρ (.tmp 40) = .int .i64 po := zY 13 40 (by kernel_rfl) (by kernel_rfl)
    simp [go_sem, t0, t1, t2, t3, t4, hf]
    exact ⟨rfl, (TKV.out w' hb).mono fun e w'' hh => ⟨_, hh.1, hh.2, rfl⟩⟩
   | 15, _ =>
    simp only [qS] at ho
    subst ho
    have t0 : ρ (.tmp 27) = .agg #[.string (zW g.name), .slice a1 g.A.length c1, .slice a2 g.E.length c2, .slice a3 g.ins.length c3, .slice (some ⟨b, off, none⟩) g.outs.length c4] := zY 0 27 (by kernel_rfl) (by kernel_rfl)
    have t1 : ρ (.tmp 29) = .int .i64 ac := zY 2 29 (by kernel_rfl) (by kernel_rfl)
    have t2 : ρ (.tmp 31) = .int .i64 po := zY 4 31 (by kernel_rfl) (by kernel_rfl)
    have t3 : ρ (.tmp 41) = .bool tk := zY 14 41 (by kernel_rfl) (by kernel_rfl)
    simp [go_sem, t0, t1, t2, t3, hf, hc]
    exact ⟨rfl, (ENV.out w' hb).mono fun e w'' hh => ⟨_, hh.1, hh.2, rfl⟩⟩
   | k + 16, h => exact absurd h (by omega)
  intro V9 w9 q9 hS
  have e0 : V9 0 = .agg #[.string (zW g.name), .slice a1 g.A.length c1, .slice a2 g.E.length c2, .slice a3 g.ins.length c3, .slice (some ⟨b, off, none⟩) g.outs.length c4] := hS 0 (by decide)
  have e1 : V9 1 = .pointer (some ⟨w.heap.size + 1, 1, none⟩) := hS 1 (by decide)
  have e2 : V9 2 = .int .i64 ac := hS 2 (by decide)
  have e3 : V9 3 = .pointer (some ⟨w.heap.size + 1, 2, none⟩) := hS 3 (by decide)
  have e4 : V9 4 = .int .i64 po := hS 4 (by decide)
  have e5 : V9 5 = .agg #[.string (zW g.name), .slice a1 g.A.length c1, .slice a2 g.E.length c2, .slice a3 g.ins.length c3, .slice (some ⟨b, off, none⟩) g.outs.length c4] := hS 5 (by decide)
  have e6 : V9 6 = .pointer (some ⟨w.heap.size, 2, none⟩) := hS 6 (by decide)
  have e7 : V9 7 = .slice a2 g.E.length c2 := hS 7 (by decide)
  have e8 : V9 8 = .int .i64 (g.E.length : Int) := hS 8 (by decide)
  have e9 : V9 9 = .int .i64 (k : Int) := hS 9 (by decide)
  have e10 : V9 10 = .pointer (some ⟨w.heap.size + 1, 1, none⟩) := hS 10 (by decide)
  have e11 : V9 11 = .int .i64 ac := hS 11 (by decide)
  have e12 : V9 12 = .pointer (some ⟨w.heap.size + 1, 2, none⟩) := hS 12 (by decide)
  have e13 : V9 13 = .int .i64 po := hS 13 (by decide)
  have e14 : V9 14 = .bool tk := hS 14 (by decide)
  have e15 : V9 15 = .int .i64 ev := hS 15 (by decide)
  simp only [List.drop_succ_cons, List.drop_zero, List.take_succ_cons, List.take_zero, yL, e0, e1, e2, e3, e4, e5, e6, e7, e8, e9, e10, e11, e12, e13, e14, e15]
  clear hS e0 e1 e2 e3 e4 e5 e6 e7 e8 e9 e10 e11 e12 e13 e14 e15 V9
  simp only [Act.put, qU]
  have B8 := zZ (BW.out.trans (q9.mono BW.out.size))
  clear q9
  go_wp2
  refine bodyPost_ret (v := .tuple #[.int .i64 ev, .int .i64 1]) (by simp [results, Try.results53, go_sem]) rfl ?_
  exact ⟨by rw [HC.out]; rfl, B8.out⟩
 go_wp2_with (first
  | (go_at_call 70; (with_reducible refine (NM.out _ BV.out).mono ?_); rintro e w2 ⟨rfl, b2⟩; have B2 := zZ b2; clear b2)
  | (go_at_call 48; (with_reducible refine (RN.out _).mono ?_); rintro e w' ⟨rfl, rfl⟩))
 refine bodyPost_ret (v := .tuple #[.int .i64 83, .int .i64 0]) (by simp [results, Try.results53, go_sem]) rfl ?_
 exact ⟨by rw [HC.out]; rfl, BV.out.trans (B2.out.mono BV.out.size)⟩
theorem qX.low {w u : World} {gv : Array Value} (h : qX w gv u) : Below w.heap.size w u := h.2
theorem qX.later {w u u' : World} {gv : Array Value} (h : qX w gv u) (hb : Below u.heap.size u u') : qX w gv u' := ⟨h.1.below hb, h.2.trans (hb.mono h.2.size)⟩
theorem jW {n k : Nat} {P : Nat -> Bool} (hk : k < n) (h : P k = false) : (List.range n).any (fun p => !P p) = true := List.any_eq_true.2 ⟨k, List.mem_range.2 hk, by rw [h]; rfl⟩
theorem gF {n : Nat} {P : Nat -> Bool} (h : ∀ j, j < n -> P j = true) : (List.range n).any (fun p => !P p) = false := List.any_eq_false.2 fun p hp => by rw [h p (List.mem_range.1 hp)]; decide
theorem bU (g : GG) (a1 a2 a3 a4 : Option Addr) (c1 c2 c3 c4 : Nat) (i : Nat) (w : World) (h : sH w a1 a2 a3 a4 g) (hi : i < g.A.length) :
 Calls Try.prog 54 #[.agg #[.string (zW g.name), .slice a1 g.A.length c1, .slice a2 g.E.length c2, .slice a3 g.ins.length c3, .slice a4 g.outs.length c4], .int .i64 (i : Int)] w fun e w' => e = .returned (.bool (tZ g i)) /\ Below w.heap.size w w' := by
 have HG := zZ h
 have n2 : (g.E.length : Int) <= 1000000000000000 := by have := h.l2; omega
 have n3 : (g.ins.length : Int) <= 1000000000000000 := by have := h.l3; omega
 have n4 : (g.outs.length : Int) <= 1000000000000000 := by have := h.l4; omega
 have s1 : uL g i <= 1024 := (vD _ _).1
 have s2 : wT g i <= 1024 := (vD _ _).2
 have RT : Hid (∀ U, Below w.heap.size w U -> Calls Try.prog 75 #[.agg #[.string (zW g.name), .slice a1 g.A.length c1, .slice a2 g.E.length c2, .slice a3 g.ins.length c3, .slice a4 g.outs.length c4], .int .i64 (i : Int)] U fun e w' => e = .returned (.tuple #[.int .i64 (uL g i : Int), .int .i64 (wT g i : Int)]) /\ Below U.heap.size U w') := fun U hb => lT g a1 a2 a3 a4 c1 c2 c3 c4 i U (HG.out.below hb) hi
 have IT : Hid (∀ U (p : Int), Below w.heap.size w U -> Calls Try.prog 74 #[.agg #[.string (zW g.name), .slice a1 g.A.length c1, .slice a2 g.E.length c2, .slice a3 g.ins.length c3, .slice a4 g.outs.length c4], .int .i64 (g.E.length : Int), .int .i64 (g.ins.length : Int), .int .i64 (i : Int), .int .i64 p] U fun e w' => e = .returned (.bool (vS g g.E.length g.ins.length (i : Int) p)) /\ Below U.heap.size U w') := fun U p hb => rU g a1 a2 a3 a4 c1 c2 c3 c4 _ _ _ _ U (HG.out.below hb) (Nat.le_refl _) (Nat.le_refl _)
 have OT : Hid (∀ U (p : Int), Below w.heap.size w U -> Calls Try.prog 73 #[.agg #[.string (zW g.name), .slice a1 g.A.length c1, .slice a2 g.E.length c2, .slice a3 g.ins.length c3, .slice a4 g.outs.length c4], .int .i64 (g.E.length : Int), .int .i64 (g.outs.length : Int), .int .i64 (i : Int), .int .i64 p] U fun e w' => e = .returned (.bool (xI g g.E.length g.outs.length (i : Int) p)) /\ Below U.heap.size U w') := fun U p hb => sP g a1 a2 a3 a4 c1 c2 c3 c4 _ _ _ _ U (HG.out.below hb) (Nat.le_refl _) (Nat.le_refl _)
 have HO : Hid (tZ g i = ((List.range (uL g i)).any (fun p => !vS g g.E.length g.ins.length (i : Int) (p : Int)) || (List.range (wT g i)).any (fun p => !xI g g.E.length g.outs.length (i : Int) (p : Int)))) := by rfl
 have B0 := zZ (vP w #[.string (zW g.name), .slice a1 g.A.length c1, .slice a2 g.E.length c2, .slice a3 g.ins.length c3, .slice a4 g.outs.length c4])
 clear h hi HG
 generalize uL g i = nI at *
 generalize wT g i = nO at *
 generalize vS g g.E.length g.ins.length (i : Int) = FI at *
 generalize xI g g.E.length g.outs.length (i : Int) = FO at *
 go_enter Try.func54, Try.ntmps54
 go_upto_region 1 with fail
 generalize w.alloc (.cells #[.string (zW g.name), .slice a1 g.A.length c1, .slice a2 g.E.length c2, .slice a3 g.ins.length c3, .slice a4 g.outs.length c4] 31) = W0 at *
 have g0 : W0.cell? ⟨w.heap.size, 0, none⟩ = some (.string (zW g.name)) := B0.out.1.cell rfl
 have g1 : W0.cell? ⟨w.heap.size, 1, none⟩ = some (.slice a1 g.A.length c1) := B0.out.1.cell rfl
 have g2 : W0.cell? ⟨w.heap.size, 2, none⟩ = some (.slice a2 g.E.length c2) := B0.out.1.cell rfl
 have g3 : W0.cell? ⟨w.heap.size, 3, none⟩ = some (.slice a3 g.ins.length c3) := B0.out.1.cell rfl
 have g4 : W0.cell? ⟨w.heap.size, 4, none⟩ = some (.slice a4 g.outs.length c4) := B0.out.1.cell rfl
 go_wp2_with (go_at_call 75; (with_reducible refine (RT.out _ B0.out.low).mono ?_); rintro e w2 ⟨rfl, b2⟩; have B2 := zZ (B0.out.later b2); clear b2)
 clear g0 g1 g2 g3 g4 RT
 go_loopg [7] nI (fun gk v wr => ∃ k : Nat, k <= nI /\ gk = nI - k /\ v = .int .i64 (k : Int) /\ qX w #[.string (zW g.name), .slice a1 g.A.length c1, .slice a2 g.E.length c2, .slice a3 g.ins.length c3, .slice a4 g.outs.length c4] wr /\ ∀ j : Nat, j < k -> FI (j : Int) = true)
 case atStart => exact ⟨0, Nat.zero_le _, rfl, rfl, B2.out, fun j hj => absurd hj (Nat.not_lt_zero _)⟩
 case round =>
  clear B2 B0
  obtain ⟨k, hk, rfl, rfl, hB, hall⟩ := hrel
  have HB := zZ hB
  have HAL := zZ hall
  have g0 : wr.cell? ⟨w.heap.size, 0, none⟩ = some (.string (zW g.name)) := hB.1.cell rfl
  have g1 : wr.cell? ⟨w.heap.size, 1, none⟩ = some (.slice a1 g.A.length c1) := hB.1.cell rfl
  have g2 : wr.cell? ⟨w.heap.size, 2, none⟩ = some (.slice a2 g.E.length c2) := hB.1.cell rfl
  have g3 : wr.cell? ⟨w.heap.size, 3, none⟩ = some (.slice a3 g.ins.length c3) := hB.1.cell rfl
  have g4 : wr.cell? ⟨w.heap.size, 4, none⟩ = some (.slice a4 g.outs.length c4) := hB.1.cell rfl
  clear hB hall
  by_cases hlt : k < nI
  ·have hki : (k : Int) < (nI : Int) := by omega
   have HYES : Hid (FI (k : Int) = false -> tZ g i = true) := fun e => by rw [HO.out, jW (P := fun p : Nat => FI (p : Int)) hlt e, Bool.true_or]
   have HNO : Hid (FI (k : Int) = true -> ∀ j : Nat, j < k + 1 -> FI (j : Int) = true) := fun e j hj => by
    by_cases q : j < k
    ·exact HAL.out j q
    rw [show j = k by omega]; exact e
   have CK := zZ (IT.out wr (k : Int) HB.out.2)
   obtain ⟨q1, hq1⟩ : ∃ q, FI (k : Int) = q := ⟨_, rfl⟩
   rw [hq1] at HYES HNO CK
   clear hq1
   cases q1
   ·go_wp2_with (go_at_call 74; (with_reducible refine CK.out.mono ?_); rintro e w3 ⟨rfl, b3⟩; have B3 := zZ (HB.out.later b3); clear b3)
    go_ret
    exact ⟨by rw [HYES.out (by trivial)]; rfl, B3.out.2⟩
   go_wp2_with (go_at_call 74; (with_reducible refine CK.out.mono ?_); rintro e w3 ⟨rfl, b3⟩; have B3 := zZ (HB.out.later b3); clear b3)
   go_roundg (nI - (k + 1))
   case measure => omega
   case rel => exact ⟨k + 1, by omega, rfl, by go_num, B3.out, HNO.out (by trivial)⟩
  have hki : ¬ (k : Int) < (nI : Int) := by omega
  have Z0 : Hid ((List.range nI).any (fun p => !FI (p : Int)) = false) := gF (P := fun p : Nat => FI (p : Int)) (fun j hj => HAL.out j (by omega))
  clear g0 g1 g2 g3 g4 HAL hlt hk
  go_wp2
  go_loopg [8] nO (fun gk v wr => ∃ k : Nat, k <= nO /\ gk = nO - k /\ v = .int .i64 (k : Int) /\ qX w #[.string (zW g.name), .slice a1 g.A.length c1, .slice a2 g.E.length c2, .slice a3 g.ins.length c3, .slice a4 g.outs.length c4] wr /\ ∀ j : Nat, j < k -> FO (j : Int) = true)
  case atStart => exact ⟨0, Nat.zero_le _, rfl, rfl, HB.out, fun j hj => absurd hj (Nat.not_lt_zero _)⟩
  case round =>
   clear HB hki
   obtain ⟨k, hk, rfl, rfl, hB, hall⟩ := hrel
   have HB := zZ hB
   have HAL := zZ hall
   have g0 : wr.cell? ⟨w.heap.size, 0, none⟩ = some (.string (zW g.name)) := hB.1.cell rfl
   have g1 : wr.cell? ⟨w.heap.size, 1, none⟩ = some (.slice a1 g.A.length c1) := hB.1.cell rfl
   have g2 : wr.cell? ⟨w.heap.size, 2, none⟩ = some (.slice a2 g.E.length c2) := hB.1.cell rfl
   have g3 : wr.cell? ⟨w.heap.size, 3, none⟩ = some (.slice a3 g.ins.length c3) := hB.1.cell rfl
   have g4 : wr.cell? ⟨w.heap.size, 4, none⟩ = some (.slice a4 g.outs.length c4) := hB.1.cell rfl
   clear hB hall
   by_cases hlt : k < nO
   ·have hki : (k : Int) < (nO : Int) := by omega
    have HYES : Hid (FO (k : Int) = false -> tZ g i = true) := fun e => by rw [HO.out, Z0.out, jW (P := fun p : Nat => FO (p : Int)) hlt e, Bool.false_or]
    have HNO : Hid (FO (k : Int) = true -> ∀ j : Nat, j < k + 1 -> FO (j : Int) = true) := fun e j hj => by
     by_cases q : j < k
     ·exact HAL.out j q
     rw [show j = k by omega]; exact e
    have CK := zZ (OT.out wr (k : Int) HB.out.2)
    obtain ⟨q1, hq1⟩ : ∃ q, FO (k : Int) = q := ⟨_, rfl⟩
    rw [hq1] at HYES HNO CK
    clear hq1
    cases q1
    ·go_wp2_with (go_at_call 73; (with_reducible refine CK.out.mono ?_); rintro e w3 ⟨rfl, b3⟩; have B3 := zZ (HB.out.later b3); clear b3)
     go_ret
     exact ⟨by rw [HYES.out (by trivial)]; rfl, B3.out.2⟩
    go_wp2_with (go_at_call 73; (with_reducible refine CK.out.mono ?_); rintro e w3 ⟨rfl, b3⟩; have B3 := zZ (HB.out.later b3); clear b3)
    go_roundg (nO - (k + 1))
    case measure => omega
    case rel => exact ⟨k + 1, by omega, rfl, by go_num, B3.out, HNO.out (by trivial)⟩
   have hki : ¬ (k : Int) < (nO : Int) := by omega
   have Z1 : Hid ((List.range nO).any (fun p => !FO (p : Int)) = false) := gF (P := fun p : Nat => FO (p : Int)) (fun j hj => HAL.out j (by omega))
   have HP0 : Hid (tZ g i = false) := by show _ = _; rw [HO.out, Z0.out, Z1.out]; rfl
   go_wp2
   go_ret
   exact ⟨by rw [HP0.out]; rfl, HB.out.2⟩
theorem pA : (Try.prog.info? 57).map (·.size) = some 4 := by kernel_rfl
def wV (f : FL) : Value := .agg #[.int .i64 f.code, .int .u8 (f.kind : Int), .int .i64 (f.number : Int), .int .i64 (f.stop : Int)]
def sI (g : GG) : FL :=
 if 32 < g.A.length then ⟨81, 1, 32, 0⟩ else if 96 < g.E.length then ⟨81, 2, 96, 0⟩ else if 16 < g.ins.length then ⟨81, 3, 16, 0⟩ else if 16 < g.outs.length then ⟨81, 4, 16, 0⟩ else bC
theorem bT (g : GG) (a1 a2 a3 a4 : Option Addr) (c1 c2 c3 c4 : Nat) (w : World) (l1 : g.A.length <= 1000000000000000) (l2 : g.E.length <= 1000000000000000) (l3 : g.ins.length <= 1000000000000000) (l4 : g.outs.length <= 1000000000000000) :
 Calls Try.prog 49 #[.agg #[.string (zW g.name), .slice a1 g.A.length c1, .slice a2 g.E.length c2, .slice a3 g.ins.length c3, .slice a4 g.outs.length c4]] w fun e w' => e = .returned (wV (sI g)) /\ Below w.heap.size w w' := by
 have ba := ((Below.refl w.heap.size w).alloc (Nat.le_refl _) (.cells #[.string (zW g.name), .slice a1 g.A.length c1, .slice a2 g.E.length c2, .slice a3 g.ins.length c3, .slice a4 g.outs.length c4] 31)).alloc (by simp) (.cells #[.int .i64 0, .int .u8 0, .int .i64 0, .int .i64 0] 57)
 have BA := zZ ba
 have gg := (zU 31 w #[.string (zW g.name), .slice a1 g.A.length c1, .slice a2 g.E.length c2, .slice a3 g.ins.length c3, .slice a4 g.outs.length c4]).below ((Below.refl _ _).alloc (Nat.le_refl _) (.cells #[.int .i64 0, .int .u8 0, .int .i64 0, .int .i64 0] 57))
 have nr : zN 57 (w.heap.size + 1) ((w.alloc (.cells #[.string (zW g.name), .slice a1 g.A.length c1, .slice a2 g.E.length c2, .slice a3 g.ins.length c3, .slice a4 g.outs.length c4] 31)).alloc (.cells #[.int .i64 0, .int .u8 0, .int .i64 0, .int .i64 0] 57)) #[.int .i64 0, .int .u8 0, .int .i64 0, .int .i64 0] := by
  have h3 := zU 57 (w.alloc (.cells #[.string (zW g.name), .slice a1 g.A.length c1, .slice a2 g.E.length c2, .slice a3 g.ins.length c3, .slice a4 g.outs.length c4] 31)) #[.int .i64 0, .int .u8 0, .int .i64 0, .int .i64 0]
  rw [World.size_alloc] at h3
  exact h3
 have NR := zZ nr
 have x1 := gg.cell (k := 1) rfl
 have x2 := gg.cell (k := 2) rfl
 have x3 := gg.cell (k := 3) rfl
 have x4 := gg.cell (k := 4) rfl
 have HD : Hid (sI g = if 32 < g.A.length then ⟨81, 1, 32, 0⟩ else if 96 < g.E.length then ⟨81, 2, 96, 0⟩ else if 16 < g.ins.length then ⟨81, 3, 16, 0⟩ else if 16 < g.outs.length then ⟨81, 4, 16, 0⟩ else bC) := by rfl
 clear ba gg nr
 generalize g.A.length = n1 at *
 generalize g.E.length = n2 at *
 generalize g.ins.length = n3 at *
 generalize g.outs.length = n4 at *
 by_cases k0 : 32 < n1
 ·have i0 : (n1 : Int) > 32 := by omega
  go_enter Try.func49, Try.ntmps49
  go_upto_region 1 with fail
  generalize (w.alloc (.cells #[.string (zW g.name), .slice a1 n1 c1, .slice a2 n2 c2, .slice a3 n3 c3, .slice a4 n4 c4] 31)).alloc (.cells #[.int .i64 0, .int .u8 0, .int .i64 0, .int .i64 0] 57) = W0 at *
  go_wp2_with (refine zM _ rfl 57 (.tmp 2) (.tmp 7) rfl rfl (w.heap.size + 1) 57 _ _ rfl rfl NR.out pA rfl rfl ?_; intro w9 hN hU; have N9 := zZ hN; have U9 := zZ hU; clear hN hU)
  have z0 : w9.cell? ⟨w.heap.size + 1, 0, none⟩ = some (.int .i64 81) := N9.out.cell rfl
  have z1 : w9.cell? ⟨w.heap.size + 1, 1, none⟩ = some (.int .u8 1) := N9.out.cell rfl
  have z2 : w9.cell? ⟨w.heap.size + 1, 2, none⟩ = some (.int .i64 32) := N9.out.cell rfl
  have z3 : w9.cell? ⟨w.heap.size + 1, 3, none⟩ = some (.int .i64 0) := N9.out.cell rfl
  refine bodyPost_ret (v := .agg #[.int .i64 81, .int .u8 1, .int .i64 32, .int .i64 0]) (by simp [results, Try.results49, go_sem, z0, z1, z2, z3]) rfl ?_
  exact ⟨by rw [HD.out, if_pos k0]; rfl, BA.out.trans (U9.out.below (Nat.le_succ _) BA.out.size)⟩
 have i0 : ¬ (n1 : Int) > 32 := by omega
 by_cases k1 : 96 < n2
 ·have i1 : (n2 : Int) > 96 := by omega
  go_enter Try.func49, Try.ntmps49
  go_upto_region 1 with fail
  generalize (w.alloc (.cells #[.string (zW g.name), .slice a1 n1 c1, .slice a2 n2 c2, .slice a3 n3 c3, .slice a4 n4 c4] 31)).alloc (.cells #[.int .i64 0, .int .u8 0, .int .i64 0, .int .i64 0] 57) = W0 at *
  go_wp2_with (refine zM _ rfl 57 (.tmp 2) (.tmp 12) rfl rfl (w.heap.size + 1) 57 _ _ rfl rfl NR.out pA rfl rfl ?_; intro w9 hN hU; have N9 := zZ hN; have U9 := zZ hU; clear hN hU)
  have z0 : w9.cell? ⟨w.heap.size + 1, 0, none⟩ = some (.int .i64 81) := N9.out.cell rfl
  have z1 : w9.cell? ⟨w.heap.size + 1, 1, none⟩ = some (.int .u8 2) := N9.out.cell rfl
  have z2 : w9.cell? ⟨w.heap.size + 1, 2, none⟩ = some (.int .i64 96) := N9.out.cell rfl
  have z3 : w9.cell? ⟨w.heap.size + 1, 3, none⟩ = some (.int .i64 0) := N9.out.cell rfl
  refine bodyPost_ret (v := .agg #[.int .i64 81, .int .u8 2, .int .i64 96, .int .i64 0]) (by simp [results, Try.results49, go_sem, z0, z1, z2, z3]) rfl ?_
  exact ⟨by rw [HD.out, if_neg k0, if_pos k1]; rfl, BA.out.trans (U9.out.below (Nat.le_succ _) BA.out.size)⟩
 have i1 : ¬ (n2 : Int) > 96 := by omega
 by_cases k2 : 16 < n3
 ·have i2 : (n3 : Int) > 16 := by omega
  go_enter Try.func49, Try.ntmps49
  go_upto_region 1 with fail
  generalize (w.alloc (.cells #[.string (zW g.name), .slice a1 n1 c1, .slice a2 n2 c2, .slice a3 n3 c3, .slice a4 n4 c4] 31)).alloc (.cells #[.int .i64 0, .int .u8 0, .int .i64 0, .int .i64 0] 57) = W0 at *
  go_wp2_with (refine zM _ rfl 57 (.tmp 2) (.tmp 17) rfl rfl (w.heap.size + 1) 57 _ _ rfl rfl NR.out pA rfl rfl ?_; intro w9 hN hU; have N9 := zZ hN; have U9 := zZ hU; clear hN hU)
  have z0 : w9.cell? ⟨w.heap.size + 1, 0, none⟩ = some (.int .i64 81) := N9.out.cell rfl
  have z1 : w9.cell? ⟨w.heap.size + 1, 1, none⟩ = some (.int .u8 3) := N9.out.cell rfl
  have z2 : w9.cell? ⟨w.heap.size + 1, 2, none⟩ = some (.int .i64 16) := N9.out.cell rfl
  have z3 : w9.cell? ⟨w.heap.size + 1, 3, none⟩ = some (.int .i64 0) := N9.out.cell rfl
  refine bodyPost_ret (v := .agg #[.int .i64 81, .int .u8 3, .int .i64 16, .int .i64 0]) (by simp [results, Try.results49, go_sem, z0, z1, z2, z3]) rfl ?_
  exact ⟨by rw [HD.out, if_neg k0, if_neg k1, if_pos k2]; rfl, BA.out.trans (U9.out.below (Nat.le_succ _) BA.out.size)⟩
 have i2 : ¬ (n3 : Int) > 16 := by omega
 by_cases k3 : 16 < n4
 ·have i3 : (n4 : Int) > 16 := by omega
  go_enter Try.func49, Try.ntmps49
  go_upto_region 1 with fail
  generalize (w.alloc (.cells #[.string (zW g.name), .slice a1 n1 c1, .slice a2 n2 c2, .slice a3 n3 c3, .slice a4 n4 c4] 31)).alloc (.cells #[.int .i64 0, .int .u8 0, .int .i64 0, .int .i64 0] 57) = W0 at *
  go_wp2_with (refine zM _ rfl 57 (.tmp 2) (.tmp 22) rfl rfl (w.heap.size + 1) 57 _ _ rfl rfl NR.out pA rfl rfl ?_; intro w9 hN hU; have N9 := zZ hN; have U9 := zZ hU; clear hN hU)
  have z0 : w9.cell? ⟨w.heap.size + 1, 0, none⟩ = some (.int .i64 81) := N9.out.cell rfl
  have z1 : w9.cell? ⟨w.heap.size + 1, 1, none⟩ = some (.int .u8 4) := N9.out.cell rfl
  have z2 : w9.cell? ⟨w.heap.size + 1, 2, none⟩ = some (.int .i64 16) := N9.out.cell rfl
  have z3 : w9.cell? ⟨w.heap.size + 1, 3, none⟩ = some (.int .i64 0) := N9.out.cell rfl
  refine bodyPost_ret (v := .agg #[.int .i64 81, .int .u8 4, .int .i64 16, .int .i64 0]) (by simp [results, Try.results49, go_sem, z0, z1, z2, z3]) rfl ?_
  exact ⟨by rw [HD.out, if_neg k0, if_neg k1, if_neg k2, if_pos k3]; rfl, BA.out.trans (U9.out.below (Nat.le_succ _) BA.out.size)⟩
 have i3 : ¬ (n4 : Int) > 16 := by omega
 go_enter Try.func49, Try.ntmps49
 go_upto_region 1 with fail
 generalize (w.alloc (.cells #[.string (zW g.name), .slice a1 n1 c1, .slice a2 n2 c2, .slice a3 n3 c3, .slice a4 n4 c4] 31)).alloc (.cells #[.int .i64 0, .int .u8 0, .int .i64 0, .int .i64 0] 57) = W0 at *
 go_wp2_with (refine zM _ rfl 57 (.tmp 2) (.tmp 23) rfl rfl (w.heap.size + 1) 57 _ _ rfl rfl NR.out pA rfl rfl ?_; intro w9 hN hU; have N9 := zZ hN; have U9 := zZ hU; clear hN hU)
 have z0 : w9.cell? ⟨w.heap.size + 1, 0, none⟩ = some (.int .i64 0) := N9.out.cell rfl
 have z1 : w9.cell? ⟨w.heap.size + 1, 1, none⟩ = some (.int .u8 0) := N9.out.cell rfl
 have z2 : w9.cell? ⟨w.heap.size + 1, 2, none⟩ = some (.int .i64 0) := N9.out.cell rfl
 have z3 : w9.cell? ⟨w.heap.size + 1, 3, none⟩ = some (.int .i64 0) := N9.out.cell rfl
 refine bodyPost_ret (v := .agg #[.int .i64 0, .int .u8 0, .int .i64 0, .int .i64 0]) (by simp [results, Try.results49, go_sem, z0, z1, z2, z3]) rfl ?_
 exact ⟨by rw [HD.out, if_neg k0, if_neg k1, if_neg k2, if_neg k3]; rfl, BA.out.trans (U9.out.below (Nat.le_succ _) BA.out.size)⟩
structure qW (S : TypeId) (w0 wr : World) (hb : Nat) (T : TypeId) (c : Nat) (cs : Array Value) (v : Value) (n : Nat) (xs : List Value) : Prop where
 blk : zN S hb wr cs
 row : wr.ownsRow w0.heap.size T c v n xs
 old : hb < w0.heap.size
 chg : xX (fun k => k = hb \/ w0.heap.size <= k) w0 wr
theorem qW.far {S : TypeId} {w0 wr : World} {hb : Nat} {T : TypeId} {c : Nat} {cs : Array Value} {v : Value} {n : Nat} {xs : List Value} (h : qW S w0 wr hb T c cs v n xs) : v.ownBlock ≠ some hb := fun e => by
 have := zT h.row _ e
 have := h.old
 omega
theorem qW.nil {S : TypeId} {w0 : World} {hb : Nat} (T : TypeId) (c : Nat) {cs : Array Value} (h : zN S hb w0 cs) : qW S w0 w0 hb T c cs (.slice none 0 0) 0 [] :=
 ⟨h, World.ownsRow_nil _ _ _ _, h.lt, xX.of_below (Below.refl _ _)⟩
theorem qW.step {S : TypeId} {w0 V u : World} {hb : Nat} {T : TypeId} {c f : Nat} {cs : Array Value} {v : Value} {n : Nat} {xs e : List Value} (h : qW S w0 V hb T c cs v n xs) (ap : eZ (fun _ es => es = e) V w0.heap.size T c v n xs S hb f cs u) : ∃ g k, qW S w0 u hb T c (cs.setIfInBounds f (.slice (some ⟨g, 0, none⟩) (n + 1) k)) (.slice (some ⟨g, 0, none⟩) (n + 1) k) (n + 1) (xs ++ e) := by
 obtain ⟨es, w1, u1, z, hD, hbut, hblk⟩ := ap
 obtain ⟨g, cap, rfl⟩ := hD.shape
 have e1 : es = e := hD.el
 subst e1
 have hgB : w0.heap.size <= g := zT hD.own g rfl
 have hold := h.old
 refine ⟨g, cap, hblk, zV hD.own (fun k hk => hbut.block k (zR hD.own k hk) (by have := zT hD.own k hk; omega)), h.old, ?_⟩
 have c1 := h.chg.trans hD.chg (fun k hk => .inr (zT h.row k hk))
 exact c1.trans (F' := fun k => k = hb) ⟨hbut.os, hbut.tape, hbut.output, hbut.size, fun k hk hn => hbut.block k hk hn⟩ (fun k hk => .inl (.inl hk))
theorem qW.bel {S : TypeId} {w0 wr : World} {hb : Nat} {T : TypeId} {c : Nat} {cs : Array Value} {v : Value} {n : Nat} {xs : List Value} (h : qW S w0 wr hb T c cs v n xs) {Q : Nat} (hQ : Q <= hb) : Below Q w0 wr := by
 have := h.old
 exact ⟨h.chg.os, h.chg.tape, h.chg.output, h.chg.size, fun k hk => h.chg.block k (by omega) (by omega)⟩
theorem qW.keep {S : TypeId} {w0 wr : World} {hb : Nat} {T : TypeId} {c : Nat} {cs : Array Value} {v : Value} {n : Nat} {xs : List Value} (h : qW S w0 wr hb T c cs v n xs) : ∀ k, k < w0.heap.size -> k ≠ hb -> wr.heap[k]? = w0.heap[k]? := fun k hk hn => h.chg.block k hk (by omega)
structure UZ (b : Nat) (nm : ByteArray) (w : World) : Prop where
 i2 : zN 3 (b + 1) w #[.int .i64 2]
 ac : zN 61 (b + 2) w #[.string ⟨#[97]⟩, .int .u8 2, .slice (some ⟨b + 1, 0, none⟩) 1 1, .string nm, .int .u8 8, .slice none 0 0]
 pi : zN 83 (b + 5) w #[.string ⟨#[120]⟩, .int .i64 0, .int .i64 0]
 po : zN 83 (b + 6) w #[.string ⟨#[121]⟩, .int .i64 1, .int .i64 0]
theorem UZ.keep {b : Nat} {nm : ByteArray} {w w' : World} (h : UZ b nm w) (hk : ∀ k, k = b + 1 \/ k = b + 2 \/ k = b + 5 \/ k = b + 6 -> k < w.heap.size -> w'.heap[k]? = w.heap[k]?) : UZ b nm w' :=
 ⟨h.i2.keep (hk _ (by omega) h.i2.lt), h.ac.keep (hk _ (by omega) h.ac.lt), h.pi.keep (hk _ (by omega) h.pi.lt), h.po.keep (hk _ (by omega) h.po.lt)⟩
theorem jA.x {b : Nat} {tp : Int} {w : World} (h : jA b tp w) : UZ b ⟨#[98]⟩ w := ⟨h.i2, h.ac, h.pi, h.po⟩
theorem jA.but {b gb : Nat} {tp : Int} {w w' : World} (h : jA b tp w) (hB : vA gb w w') (hg : gb < b) : jA b tp w' :=
 ⟨h.i2.keep (hB.block _ h.i2.lt (by omega)), h.ac.keep (hB.block _ h.ac.lt (by omega)), h.i7.keep (hB.block _ h.i7.lt (by omega)), h.ed.keep (hB.block _ h.ed.lt (by omega)), h.pi.keep (hB.block _ h.pi.lt (by omega)), h.po.keep (hB.block _ h.po.lt (by omega))⟩
theorem UZ.gr {b : Nat} {nm : List UInt8} {w : World} (h : UZ b (zW nm) w) {x : Option Addr} {es : List GE} (hE : fA w x es) (hl : es.length <= 10) : sH w (some ⟨b + 2, 0, none⟩) x (some ⟨b + 5, 0, none⟩) (some ⟨b + 6, 0, none⟩) (gSN nm es) := by
 refine ⟨.inr ⟨b + 2, 0, rfl, fun k hk => ?_⟩, hE, .inr ⟨b + 5, 0, rfl, fun k hk => ?_⟩, .inr ⟨b + 6, 0, rfl, fun k hk => ?_⟩, by show 2 <= 1000000000000000; decide, by show es.length <= 1000000000000000; omega, by show 1 <= 1000000000000000; decide, by show 1 <= 1000000000000000; decide⟩
 ·match k, hk with
  | 0, _ => exact ⟨h.ac.cell (k := 0) rfl, h.ac.cell (k := 1) rfl, by show 2 <= 255; decide, _, _, h.ac.cell (k := 2) rfl, iY h.i2 (by decide)⟩
  | 1, _ => exact ⟨h.ac.cell (k := 3) rfl, h.ac.cell (k := 4) rfl, by show 8 <= 255; decide, _, _, h.ac.cell (k := 5) rfl, eB⟩
  | k + 2, hk => exact absurd hk (by show ¬ k + 2 < 2; omega)
 ·match k, hk with
  | 0, _ => exact ⟨h.pi.cell (k := 0) rfl, h.pi.cell (k := 1) rfl, h.pi.cell (k := 2) rfl⟩
  | k + 1, hk => exact absurd hk (by show ¬ k + 1 < 1; omega)
 match k, hk with
 | 0, _ => exact ⟨h.po.cell (k := 0) rfl, h.po.cell (k := 1) rfl, h.po.cell (k := 2) rfl⟩
 | k + 1, hk => exact absurd hk (by show ¬ k + 1 < 1; omega)
theorem VU {w : World} {g : Nat} {f : Int} {d : Option Addr} {k : Nat} {st : List Int} (h : zN 64 g w #[.int .i64 f, .int .i64 0, .int .i64 1, .int .i64 0, .slice d st.length k]) (ha : lJ w d st.length k st) : fA w (some ⟨g, 0, none⟩) [eSN f st] :=
 .inr ⟨g, 0, rfl, fun i hi => by
  match i, hi with
  | 0, _ => exact ⟨h.cell (k := 0) rfl, h.cell (k := 1) rfl, h.cell (k := 2) rfl, h.cell (k := 3) rfl, _, _, h.cell (k := 4) rfl, ha⟩
  | i + 1, hi => exact absurd hi (by show ¬ i + 1 < 1; omega)⟩
theorem qW.later {S : TypeId} {w0 wr w' : World} {hb : Nat} {T : TypeId} {c : Nat} {cs : Array Value} {v : Value} {n : Nat} {xs : List Value} (h : qW S w0 wr hb T c cs v n xs) (hb' : Below wr.heap.size wr w') : qW S w0 w' hb T c cs v n xs :=
 ⟨h.blk.below hb', zS h.row hb', h.old, h.chg.trans (F' := fun k => k = hb \/ w0.heap.size <= k) (xX.of_below hb') (fun _ hk => .inl hk)⟩
structure kT (w wr : World) (b k : Nat) (d : Option Addr) (kk : Nat) : Prop where
 box : zN 64 (b + 4) wr #[.int .i64 0, .int .i64 0, .int .i64 1, .int .i64 0, .slice d (k + 1) kk]
 row : wr.ownsRow (b + 3) 3 1 (.slice d (k + 1) kk) (k + 1) (((7 : Int) :: List.replicate k 1).map (Value.int .i64))
 sx : UZ b ⟨#[98]⟩ wr
 gx : zN 31 w.heap.size wr #[.string ⟨#[103]⟩, .slice (some ⟨b + 2, 0, none⟩) 2 2, .slice (some ⟨b + 4, 0, none⟩) 1 1, .slice (some ⟨b + 5, 0, none⟩) 1 1, .slice (some ⟨b + 6, 0, none⟩) 1 1]
 low : w.heap.size < b
 bel : Below w.heap.size w wr
theorem kT.far {w wr : World} {b k : Nat} {d : Option Addr} {kk : Nat} (h : kT w wr b k d kk) : (.slice d (k + 1) kk : Value).ownBlock ≠ some (b + 4) := fun e => rT h.row h.box (by decide) _ e rfl
theorem YR (k : Nat) : ((7 : Int) :: List.replicate (k + 1) 1).map (Value.int .i64) = ((7 : Int) :: List.replicate k 1).map (Value.int .i64) ++ [.int .i64 1] := by
 rw [List.replicate_succ', <- List.cons_append, List.map_append]
 rfl
theorem kT.step {w V u : World} {b k : Nat} {d : Option Addr} {kk : Nat} (h : kT w V b k d kk) (ap : eZ (fun _ es => es = [.int .i64 1]) V (b + 3) 3 1 (.slice d (k + 1) kk) (k + 1) (((7 : Int) :: List.replicate k 1).map (Value.int .i64)) 64 (b + 4) 4 #[.int .i64 0, .int .i64 0, .int .i64 1, .int .i64 0, .slice d (k + 1) kk] u) : ∃ d' kk', kT w u b (k + 1) d' kk' := by
 obtain ⟨es, w1, u1, z, hD, hbut, hblk⟩ := ap
 obtain ⟨g, cap, rfl⟩ := hD.shape
 have e1 : es = [.int .i64 1] := hD.el
 subst e1
 have hlow := h.low
 have hb1 : zN 64 (b + 4) u1 _ := h.box.keep (hD.chg.block _ h.box.lt h.far)
 have kp : ∀ j, j < V.heap.size -> (.slice d (k + 1) kk : Value).ownBlock ≠ some j -> j ≠ b + 4 -> u.heap[j]? = V.heap[j]? := fun j hj hn h4 => (hbut.block j (Nat.lt_of_lt_of_le hj hD.chg.size) h4).trans (hD.chg.block j hj hn)
 have no : ∀ j, j < b + 3 -> (.slice d (k + 1) kk : Value).ownBlock ≠ some j := fun j hj e => by have := zT h.row j e; omega
 refine ⟨some ⟨g, 0, none⟩, cap, hblk, ?_, ?_, ?_, h.low, ?_⟩
 ·rw [YR]
  exact zV hD.own (fun j hj => hbut.block j (zR hD.own j hj) (rT hD.own hb1 (by decide) j hj))
 ·refine h.sx.keep fun j hj hl => kp j hl ?_ (by omega)
  rcases hj with rfl | rfl | rfl | rfl
  ·exact no _ (by omega)
  ·exact no _ (by omega)
  ·exact fun e => rT h.row h.sx.pi (by decide) _ e rfl
  exact fun e => rT h.row h.sx.po (by decide) _ e rfl
 ·exact h.gx.keep (kp _ h.gx.lt (no _ (by omega)) (by omega))
 exact h.bel.trans ⟨hbut.os.trans hD.chg.os, hbut.tape.trans hD.chg.tape, hbut.output.trans hD.chg.output, Nat.le_trans hD.chg.size hbut.size, fun j hj => kp j (Nat.lt_of_lt_of_le hj h.bel.size) (no _ (by omega)) (by omega)⟩
theorem kT.later {w wr w' : World} {b k : Nat} {d : Option Addr} {kk : Nat} (h : kT w wr b k d kk) (hb : Below wr.heap.size wr w') : kT w w' b k d kk :=
 ⟨h.box.below hb, zS h.row hb, h.sx.keep (fun j _ hl => hb.block j hl), h.gx.below hb, h.low, h.bel.trans (hb.mono h.bel.size)⟩
theorem kT.gr {w wr : World} {b k : Nat} {d : Option Addr} {kk : Nat} (h : kT w wr b k d kk) (hk : k <= 300) : sH wr (some ⟨b + 2, 0, none⟩) (some ⟨b + 4, 0, none⟩) (some ⟨b + 5, 0, none⟩) (some ⟨b + 6, 0, none⟩) (gSN [98] [eSN 0 (7 :: List.replicate k 1)]) := by
 have hl : ((7 : Int) :: List.replicate k 1).length = k + 1 := by simp
 have hcap := YU h.row
 refine UZ.gr (nm := [98]) h.sx (VU (d := d) (k := kk) (by rw [hl]; exact h.box) ?_) (by simp)
 rw [hl]
 refine ⟨hl, by omega, fun e => ?_, fun i => ?_, ?_, hcap⟩
 ·subst e
  rcases h.row.2 with ⟨hv, hn⟩ | ⟨g, c, cur, hv, -⟩
  ·omega
  cases hv
 ·unfold yW
  rw [List.getD_eq_getElem?_getD]
  by_cases hi : i < ((7 : Int) :: List.replicate k 1).length
  ·rw [List.getElem?_eq_getElem hi]
   have hm := List.getElem_mem hi
   simp only [Option.getD_some]
   rcases List.mem_cons.1 hm with e | e
   ·rw [e]; decide
   rw [(List.mem_replicate.1 e).2]; decide
  rw [List.getElem?_eq_none (by omega)]; decide
 have q : yS (b + 3) wr d kk ((7 : Int) :: List.replicate k 1) := by unfold yS; rw [hl]; exact h.row
 exact q.at
end Go.Proofs.Ytgoconkleicmkaa
