/- Texts of one chain, laid one behind the other. -/
import Derived.Test.YtgflileajamonaaPartGraphBuilds30
namespace Go.Proofs.Ytgflileajamonaa
open Go.ChangeShapes Go.WideShapes Go.ChangeAt Go.RowKit
set_option maxRecDepth 100000 in
set_option maxHeartbeats 8000000 in
theorem edge8_any (g : GG) (a1 a2 a3 a4 : Option Addr) (c1 c2 c3 c4 : Nat) (k : Nat) (w : World) (h : GrG w a1 a2 a3 a4 g) (hk : k < g.edges.length) :
    Calls Try.prog 51 #[.agg #[.string (str g.name), .slice a1 g.actors.length c1, .slice a2 g.edges.length c2, .slice a3 g.ins.length c3, .slice a4 g.outs.length c4], .int .i64 (k : Int)] w fun e w' => e = .returned (.tuple #[.int .i64 (edgeC g k).1, .int .i64 ((edgeC g k).2 : Int)]) ∧ Below w.heap.size w w' := by
  have hki : (k : Int) < (g.edges.length : Int) := by omega
  have l2 := h.l2
  have n2 : (g.edges.length : Int) ≤ 1000000000000000 := by omega
  have ba := (Below.refl w.heap.size w).alloc (Nat.le_refl _) (.cells #[.string (str g.name), .slice a1 g.actors.length c1, .slice a2 g.edges.length c2, .slice a3 g.ins.length c3, .slice a4 g.outs.length c4] 31)
  have HG := hiddenG h
  have EN : Hid (∀ U (ac po : Int) (ot tk : Bool), Below w.heap.size w U → Calls Try.prog 72 #[.agg #[.string (str g.name), .slice a1 g.actors.length c1, .slice a2 g.edges.length c2, .slice a3 g.ins.length c3, .slice a4 g.outs.length c4], .int .i64 ac, .int .i64 po, .bool ot, .bool tk] U fun e w' => e = .returned (.int .i64 (endC g ac po (if ot = true then outsN g ac.toNat else insN g ac.toNat) tk)) ∧ Below U.heap.size U w') := fun U ac po ot tk hb => end8_any g a1 a2 a3 a4 c1 c2 c3 c4 ac po ot tk U (HG.out.below hb)
  have OT : Hid (∀ U (ac po : Int), Below w.heap.size w U → Calls Try.prog 73 #[.agg #[.string (str g.name), .slice a1 g.actors.length c1, .slice a2 g.edges.length c2, .slice a3 g.ins.length c3, .slice a4 g.outs.length c4], .int .i64 (k : Int), .int .i64 0, .int .i64 ac, .int .i64 po] U fun e w' => e = .returned (.bool (outTk g k 0 ac po)) ∧ Below U.heap.size U w') := fun U ac po hb => outTaken_any g a1 a2 a3 a4 c1 c2 c3 c4 k 0 ac po U (HG.out.below hb) (by omega) (Nat.zero_le _)
  have IT : Hid (∀ U (ac po : Int), Below w.heap.size w U → Calls Try.prog 74 #[.agg #[.string (str g.name), .slice a1 g.actors.length c1, .slice a2 g.edges.length c2, .slice a3 g.ins.length c3, .slice a4 g.outs.length c4], .int .i64 (k : Int), .int .i64 0, .int .i64 ac, .int .i64 po] U fun e w' => e = .returned (.bool (inTk g k 0 ac po)) ∧ Below U.heap.size U w') := fun U ac po hb => inTaken_any g a1 a2 a3 a4 c1 c2 c3 c4 k 0 ac po U (HG.out.below hb) (by omega) (Nat.zero_le _)
  have HC : Hid (edgeC g k = if outEnd g k 0 (nthE g.edges k).f (nthE g.edges k).fp ≠ 0 then (outEnd g k 0 (nthE g.edges k).f (nthE g.edges k).fp, 1) else if inEnd g k 0 (nthE g.edges k).t (nthE g.edges k).tp ≠ 0 then (inEnd g k 0 (nthE g.edges k).t (nthE g.edges k).tp, 2) else if 256 < (nthE g.edges k).start.length then (88, 0) else (0, 0)) := by rfl
  have B0 := hiddenG (gbox_new w #[.string (str g.name), .slice a1 g.actors.length c1, .slice a2 g.edges.length c2, .slice a3 g.ins.length c3, .slice a4 g.outs.length c4])
  have y2 := B0.out.1.cell (k := 2) rfl
  obtain ⟨b, off, ha2, hc⟩ : ∃ b off, a2 = some ⟨b, off, none⟩ ∧ ∀ j, j < g.edges.length → _ := by
    rcases (h.below ba).E with e | q
    · rw [e] at hk; exact absurd hk (Nat.not_lt_zero _)
    · exact q
  obtain ⟨x0, x1, x2, x3, xa, xc, x4, x5⟩ := hc k hk
  rw [ha2] at y2
  have hsl := x5.reach
  clear hc x5 ba h
  generalize nthE g.edges k = E at *
  obtain ⟨ef, efp, et, etp, es⟩ := E
  simp only at x0 x1 x2 x3 x4 HC hsl
  have hes : (es.length : Int) ≤ 140737488351232 := by omega
  have OT1 : Hid (∀ U, Below w.heap.size w U → Calls Try.prog 73 #[.agg #[.string (str g.name), .slice a1 g.actors.length c1, .slice a2 g.edges.length c2, .slice a3 g.ins.length c3, .slice a4 g.outs.length c4], .int .i64 (k : Int), .int .i64 0, .int .i64 ef, .int .i64 efp] U fun e w' => e = .returned (.bool (outTk g k 0 ef efp)) ∧ Below U.heap.size U w') := fun U hb => OT.out U ef efp hb
  have IT1 : Hid (∀ U, Below w.heap.size w U → Calls Try.prog 74 #[.agg #[.string (str g.name), .slice a1 g.actors.length c1, .slice a2 g.edges.length c2, .slice a3 g.ins.length c3, .slice a4 g.outs.length c4], .int .i64 (k : Int), .int .i64 0, .int .i64 et, .int .i64 etp] U fun e w' => e = .returned (.bool (inTk g k 0 et etp)) ∧ Below U.heap.size U w') := fun U hb => IT.out U et etp hb
  have EO : Hid (∀ U, Below w.heap.size w U → Calls Try.prog 72 #[.agg #[.string (str g.name), .slice a1 g.actors.length c1, .slice a2 g.edges.length c2, .slice a3 g.ins.length c3, .slice a4 g.outs.length c4], .int .i64 ef, .int .i64 efp, .bool true, .bool (outTk g k 0 ef efp)] U fun e w' => e = .returned (.int .i64 (outEnd g k 0 ef efp)) ∧ Below U.heap.size U w') := fun U hb => EN.out U ef efp true _ hb
  have EI : Hid (∀ U, Below w.heap.size w U → Calls Try.prog 72 #[.agg #[.string (str g.name), .slice a1 g.actors.length c1, .slice a2 g.edges.length c2, .slice a3 g.ins.length c3, .slice a4 g.outs.length c4], .int .i64 et, .int .i64 etp, .bool false, .bool (inTk g k 0 et etp)] U fun e w' => e = .returned (.int .i64 (inEnd g k 0 et etp)) ∧ Below U.heap.size U w') := fun U hb => EN.out U et etp false _ hb
  generalize outTk g k 0 ef efp = tk1 at *
  generalize inTk g k 0 et etp = tk2 at *
  generalize outEnd g k 0 ef efp = oe at *
  generalize inEnd g k 0 et etp = ie at *
  clear EN OT IT
  have bv := B0.out.2.trans (((Below.refl (w.alloc (.cells #[.string (str g.name), .slice a1 g.actors.length c1, .slice a2 g.edges.length c2, .slice a3 g.ins.length c3, .slice a4 g.outs.length c4] 31)).heap.size (w.alloc (.cells #[.string (str g.name), .slice a1 g.actors.length c1, .slice a2 g.edges.length c2, .slice a3 g.ins.length c3, .slice a4 g.outs.length c4] 31))).alloc (Nat.le_refl _) (.cells #[.int .i64 ef, .int .i64 efp, .int .i64 et, .int .i64 etp, .slice xa es.length xc] 64)).mono B0.out.2.size)
  have GB := hiddenG (B0.out.1.below ((Below.refl (w.alloc (.cells #[.string (str g.name), .slice a1 g.actors.length c1, .slice a2 g.edges.length c2, .slice a3 g.ins.length c3, .slice a4 g.outs.length c4] 31)).heap.size (w.alloc (.cells #[.string (str g.name), .slice a1 g.actors.length c1, .slice a2 g.edges.length c2, .slice a3 g.ins.length c3, .slice a4 g.outs.length c4] 31))).alloc (Nat.le_refl _) (.cells #[.int .i64 ef, .int .i64 efp, .int .i64 et, .int .i64 etp, .slice xa es.length xc] 64)))
  have BX : Hid (BlkA 64 (w.heap.size + 1) ((w.alloc (.cells #[.string (str g.name), .slice a1 g.actors.length c1, .slice a2 g.edges.length c2, .slice a3 g.ins.length c3, .slice a4 g.outs.length c4] 31)).alloc (.cells #[.int .i64 ef, .int .i64 efp, .int .i64 et, .int .i64 etp, .slice xa es.length xc] 64)) #[.int .i64 ef, .int .i64 efp, .int .i64 et, .int .i64 etp, .slice xa es.length xc]) := by
    have q := blkA_new 64 (w.alloc (.cells #[.string (str g.name), .slice a1 g.actors.length c1, .slice a2 g.edges.length c2, .slice a3 g.ins.length c3, .slice a4 g.outs.length c4] 31)) #[.int .i64 ef, .int .i64 efp, .int .i64 et, .int .i64 etp, .slice xa es.length xc]
    rw [World.size_alloc] at q
    exact q
  have BV := hiddenG bv
  clear bv
  subst ha2
  go_enter Try.func51, Try.ntmps51
  go_upto_region 2 with fail
  generalize (w.alloc (.cells #[.string (str g.name), .slice a1 g.actors.length c1, .slice (some ⟨b, off, none⟩) g.edges.length c2, .slice a3 g.ins.length c3, .slice a4 g.outs.length c4] 31)).alloc (.cells #[.int .i64 ef, .int .i64 efp, .int .i64 et, .int .i64 etp, .slice xa es.length xc] 64) = V at *
  have gx0 : V.cell? ⟨w.heap.size, 0, none⟩ = some (.string (str g.name)) := (GB.out).cell rfl
  have gx1 : V.cell? ⟨w.heap.size, 1, none⟩ = some (.slice a1 g.actors.length c1) := (GB.out).cell rfl
  have gx2 : V.cell? ⟨w.heap.size, 2, none⟩ = some (.slice (some ⟨b, off, none⟩) g.edges.length c2) := (GB.out).cell rfl
  have gx3 : V.cell? ⟨w.heap.size, 3, none⟩ = some (.slice a3 g.ins.length c3) := (GB.out).cell rfl
  have gx4 : V.cell? ⟨w.heap.size, 4, none⟩ = some (.slice a4 g.outs.length c4) := (GB.out).cell rfl
  have bb0 := BX.out.cell (k := 0) rfl
  have bb1 := BX.out.cell (k := 1) rfl
  have bb2 := BX.out.cell (k := 2) rfl
  have bb3 := BX.out.cell (k := 3) rfl
  have bb4 := BX.out.cell (k := 4) rfl
  clear x0 x1 x2 x3 x4 y2
  have OTV : Hid (∀ U, Below V.heap.size V U → Calls Try.prog 73 #[.agg #[.string (str g.name), .slice a1 g.actors.length c1, .slice (some ⟨b, off, none⟩) g.edges.length c2, .slice a3 g.ins.length c3, .slice a4 g.outs.length c4], .int .i64 (k : Int), .int .i64 0, .int .i64 ef, .int .i64 efp] U fun e w' => e = .returned (.bool tk1) ∧ Below U.heap.size U w') := fun U hb => OT1.out U (BV.out.trans (hb.mono BV.out.size))
  have EOV : Hid (∀ U, Below V.heap.size V U → Calls Try.prog 72 #[.agg #[.string (str g.name), .slice a1 g.actors.length c1, .slice (some ⟨b, off, none⟩) g.edges.length c2, .slice a3 g.ins.length c3, .slice a4 g.outs.length c4], .int .i64 ef, .int .i64 efp, .bool true, .bool tk1] U fun e w' => e = .returned (.int .i64 oe) ∧ Below U.heap.size U w') := fun U hb => EO.out U (BV.out.trans (hb.mono BV.out.size))
  by_cases h1 : oe = 0
  · subst h1
    refine wp_region_said 13 (fun i u v => match i with
        | 0 => v = .agg #[.string (str g.name), .slice a1 g.actors.length c1, .slice (some ⟨b, off, none⟩) g.edges.length c2, .slice a3 g.ins.length c3, .slice a4 g.outs.length c4]
        | 1 => v = .pointer (some ⟨w.heap.size + 1, 0, none⟩)
        | 2 => v = .int .i64 ef
        | 3 => v = .pointer (some ⟨w.heap.size + 1, 1, none⟩)
        | 4 => v = .int .i64 efp
        | 5 => v = .agg #[.string (str g.name), .slice a1 g.actors.length c1, .slice (some ⟨b, off, none⟩) g.edges.length c2, .slice a3 g.ins.length c3, .slice a4 g.outs.length c4]
        | 6 => v = .int .i64 (k : Int)
        | 7 => v = .pointer (some ⟨w.heap.size + 1, 0, none⟩)
        | 8 => v = .int .i64 ef
        | 9 => v = .pointer (some ⟨w.heap.size + 1, 1, none⟩)
        | 10 => v = .int .i64 efp
        | 11 => v = .bool tk1
        | 12 => v = .int .i64 0
        | _ => True) (by kernel_rfl) (by kernel_rfl) (by kernel_rfl) (by kernel_rfl) ?_ ?_ ?_
    · intro i w v w' h hb
      match i, h with
      | 0, h => exact h
      | 1, h => exact h
      | 2, h => exact h
      | 3, h => exact h
      | 4, h => exact h
      | 5, h => exact h
      | 6, h => exact h
      | 7, h => exact h
      | 8, h => exact h
      | 9, h => exact h
      | 10, h => exact h
      | 11, h => exact h
      | 12, h => exact h
      | _ + 13, _ => trivial
    · intro i o ρ w' hi ho hb hc hf hfr hdep
      have g0 := cell_keep hb gx0
      have g1 := cell_keep hb gx1
      have g2 := cell_keep hb gx2
      have g3 := cell_keep hb gx3
      have g4 := cell_keep hb gx4
      have b0 := cell_keep hb bb0
      have b1 := cell_keep hb bb1
      have b2 := cell_keep hb bb2
      have b3 := cell_keep hb bb3
      match i, hi with
      | 0, _ =>
        simp only [gTA, gCZ, gSI] at ho
        subst ho
        have ts : ρ (.tmp 2) = .pointer (some ⟨w.heap.size, 0, none⟩) := hfr 2 (by kernel_rfl)
        simp [go_sem, ts, g0, g1, g2, g3, g4]
        exact ⟨Below.refl _ _, rfl⟩
      | 1, _ =>
        simp only [gTA, gCZ, gCS, gSI] at ho
        subst ho
        have ts : ρ (.tmp 6) = .pointer (some ⟨w.heap.size + 1, 0, none⟩) := hfr 6 (by kernel_rfl)
        simp [go_sem, ts]
        exact ⟨Below.refl _ _, rfl⟩
      | 2, _ =>
        simp only [gTA, gCZ, gCS, gSI] at ho
        subst ho
        have ts : ρ (.tmp 14) = .pointer (some ⟨w.heap.size + 1, 0, none⟩) := hdep 1 14 (by kernel_rfl) (by kernel_rfl)
        simp [go_sem, ts, b0]
        exact ⟨Below.refl _ _, rfl⟩
      | 3, _ =>
        simp only [gTA, gCZ, gCS, gSI] at ho
        subst ho
        have ts : ρ (.tmp 6) = .pointer (some ⟨w.heap.size + 1, 0, none⟩) := hfr 6 (by kernel_rfl)
        simp [go_sem, ts]
        exact ⟨Below.refl _ _, rfl⟩
      | 4, _ =>
        simp only [gTA, gCZ, gCS, gSI] at ho
        subst ho
        have ts : ρ (.tmp 16) = .pointer (some ⟨w.heap.size + 1, 1, none⟩) := hdep 3 16 (by kernel_rfl) (by kernel_rfl)
        simp [go_sem, ts, b1]
        exact ⟨Below.refl _ _, rfl⟩
      | 5, _ =>
        simp only [gTA, gCZ, gCS, gSI] at ho
        subst ho
        have ts : ρ (.tmp 2) = .pointer (some ⟨w.heap.size, 0, none⟩) := hfr 2 (by kernel_rfl)
        simp [go_sem, ts, g0, g1, g2, g3, g4]
        exact ⟨Below.refl _ _, rfl⟩
      | 6, _ =>
        simp only [gTA, gCZ, gCS, gSI] at ho
        subst ho
        have ts : ρ (.tmp 1) = .int .i64 (k : Int) := hfr 1 (by kernel_rfl)
        simp [go_sem, ts]
        exact ⟨Below.refl _ _, rfl⟩
      | 7, _ =>
        simp only [gTA, gCZ, gCS, gSI] at ho
        subst ho
        have ts : ρ (.tmp 6) = .pointer (some ⟨w.heap.size + 1, 0, none⟩) := hfr 6 (by kernel_rfl)
        simp [go_sem, ts]
        exact ⟨Below.refl _ _, rfl⟩
      | 8, _ =>
        simp only [gTA, gCZ, gCS, gSI] at ho
        subst ho
        have ts : ρ (.tmp 20) = .pointer (some ⟨w.heap.size + 1, 0, none⟩) := hdep 7 20 (by kernel_rfl) (by kernel_rfl)
        simp [go_sem, ts, b0]
        exact ⟨Below.refl _ _, rfl⟩
      | 9, _ =>
        simp only [gTA, gCZ, gCS, gSI] at ho
        subst ho
        have ts : ρ (.tmp 6) = .pointer (some ⟨w.heap.size + 1, 0, none⟩) := hfr 6 (by kernel_rfl)
        simp [go_sem, ts]
        exact ⟨Below.refl _ _, rfl⟩
      | 10, _ =>
        simp only [gTA, gCZ, gCS, gSI] at ho
        subst ho
        have ts : ρ (.tmp 22) = .pointer (some ⟨w.heap.size + 1, 1, none⟩) := hdep 9 22 (by kernel_rfl) (by kernel_rfl)
        simp [go_sem, ts, b1]
        exact ⟨Below.refl _ _, rfl⟩
      | 11, _ =>
        simp only [gTA, gCZ, gCS, gSI] at ho
        subst ho
        have t0 : ρ (.tmp 18) = .agg #[.string (str g.name), .slice a1 g.actors.length c1, .slice (some ⟨b, off, none⟩) g.edges.length c2, .slice a3 g.ins.length c3, .slice a4 g.outs.length c4] := hdep 5 18 (by kernel_rfl) (by kernel_rfl)
        have t1 : ρ (.tmp 19) = .int .i64 (k : Int) := hdep 6 19 (by kernel_rfl) (by kernel_rfl)
        have t2 : ρ (.tmp 21) = .int .i64 ef := hdep 8 21 (by kernel_rfl) (by kernel_rfl)
        have t3 : ρ (.tmp 23) = .int .i64 efp := hdep 10 23 (by kernel_rfl) (by kernel_rfl)
        simp [go_sem, t0, t1, t2, t3, hf, hc]
        exact ⟨rfl, (OTV.out w' hb).mono fun e w'' hh => ⟨_, hh.1, hh.2, rfl⟩⟩
      | 12, _ =>
        simp only [gTA, gCZ, gCS, gSI] at ho
        subst ho
        have t0 : ρ (.tmp 13) = .agg #[.string (str g.name), .slice a1 g.actors.length c1, .slice (some ⟨b, off, none⟩) g.edges.length c2, .slice a3 g.ins.length c3, .slice a4 g.outs.length c4] := hdep 0 13 (by kernel_rfl) (by kernel_rfl)
        have t1 : ρ (.tmp 15) = .int .i64 ef := hdep 2 15 (by kernel_rfl) (by kernel_rfl)
        have t2 : ρ (.tmp 17) = .int .i64 efp := hdep 4 17 (by kernel_rfl) (by kernel_rfl)
        have t3 : ρ (.tmp 24) = .bool tk1 := hdep 11 24 (by kernel_rfl) (by kernel_rfl)
        simp [go_sem, t0, t1, t2, t3, hf, hc]
        exact ⟨rfl, (EOV.out w' hb).mono fun e w'' hh => ⟨_, hh.1, hh.2, rfl⟩⟩
    · intro V9 w9 q9 hS
      have e0 : V9 0 = .agg #[.string (str g.name), .slice a1 g.actors.length c1, .slice (some ⟨b, off, none⟩) g.edges.length c2, .slice a3 g.ins.length c3, .slice a4 g.outs.length c4] := hS 0 (by decide)
      have e1 : V9 1 = .pointer (some ⟨w.heap.size + 1, 0, none⟩) := hS 1 (by decide)
      have e2 : V9 2 = .int .i64 ef := hS 2 (by decide)
      have e3 : V9 3 = .pointer (some ⟨w.heap.size + 1, 1, none⟩) := hS 3 (by decide)
      have e4 : V9 4 = .int .i64 efp := hS 4 (by decide)
      have e5 : V9 5 = .agg #[.string (str g.name), .slice a1 g.actors.length c1, .slice (some ⟨b, off, none⟩) g.edges.length c2, .slice a3 g.ins.length c3, .slice a4 g.outs.length c4] := hS 5 (by decide)
      have e6 : V9 6 = .int .i64 (k : Int) := hS 6 (by decide)
      have e7 : V9 7 = .pointer (some ⟨w.heap.size + 1, 0, none⟩) := hS 7 (by decide)
      have e8 : V9 8 = .int .i64 ef := hS 8 (by decide)
      have e9 : V9 9 = .pointer (some ⟨w.heap.size + 1, 1, none⟩) := hS 9 (by decide)
      have e10 : V9 10 = .int .i64 efp := hS 10 (by decide)
      have e11 : V9 11 = .bool tk1 := hS 11 (by decide)
      have e12 : V9 12 = .int .i64 0 := hS 12 (by decide)
      simp only [List.drop_succ_cons, List.drop_zero, List.take_succ_cons, List.take_zero, puts, e0, e1, e2, e3, e4, e5, e6, e7, e8, e9, e10, e11, e12]
      clear hS e0 e1 e2 e3 e4 e5 e6 e7 e8 e9 e10 e11 e12 V9
      simp only [Act.put, List.setIfInBounds_toArray, List.set_cons_zero, List.set_cons_succ]
      have Q9 := hiddenG q9
      have BW := hiddenG (BV.out.trans (q9.mono BV.out.size))
      have gy0 := cell_keep q9 gx0
      have gy1 := cell_keep q9 gx1
      have gy2 := cell_keep q9 gx2
      have gy3 := cell_keep q9 gx3
      have gy4 := cell_keep q9 gx4
      have bc0 := cell_keep q9 bb0
      have bc1 := cell_keep q9 bb1
      have bc2 := cell_keep q9 bb2
      have bc3 := cell_keep q9 bb3
      have bc4 := cell_keep q9 bb4
      have ITV : Hid (∀ U, Below w9.heap.size w9 U → Calls Try.prog 74 #[.agg #[.string (str g.name), .slice a1 g.actors.length c1, .slice (some ⟨b, off, none⟩) g.edges.length c2, .slice a3 g.ins.length c3, .slice a4 g.outs.length c4], .int .i64 (k : Int), .int .i64 0, .int .i64 et, .int .i64 etp] U fun e w' => e = .returned (.bool tk2) ∧ Below U.heap.size U w') := fun U hb => IT1.out U (BW.out.trans (hb.mono BW.out.size))
      have EIV : Hid (∀ U, Below w9.heap.size w9 U → Calls Try.prog 72 #[.agg #[.string (str g.name), .slice a1 g.actors.length c1, .slice (some ⟨b, off, none⟩) g.edges.length c2, .slice a3 g.ins.length c3, .slice a4 g.outs.length c4], .int .i64 et, .int .i64 etp, .bool false, .bool tk2] U fun e w' => e = .returned (.int .i64 ie) ∧ Below U.heap.size U w') := fun U hb => EI.out U (BW.out.trans (hb.mono BW.out.size))
      clear q9 gx0 gx1 gx2 gx3 gx4 bb0 bb1 bb2 bb3 bb4 OTV EOV
      go_upto_region 5 with fail
      by_cases h2 : ie = 0
      · subst h2
        refine wp_region_said 13 (fun i u v => match i with
            | 0 => v = .agg #[.string (str g.name), .slice a1 g.actors.length c1, .slice (some ⟨b, off, none⟩) g.edges.length c2, .slice a3 g.ins.length c3, .slice a4 g.outs.length c4]
            | 1 => v = .pointer (some ⟨w.heap.size + 1, 2, none⟩)
            | 2 => v = .int .i64 et
            | 3 => v = .pointer (some ⟨w.heap.size + 1, 3, none⟩)
            | 4 => v = .int .i64 etp
            | 5 => v = .agg #[.string (str g.name), .slice a1 g.actors.length c1, .slice (some ⟨b, off, none⟩) g.edges.length c2, .slice a3 g.ins.length c3, .slice a4 g.outs.length c4]
            | 6 => v = .int .i64 (k : Int)
            | 7 => v = .pointer (some ⟨w.heap.size + 1, 2, none⟩)
            | 8 => v = .int .i64 et
            | 9 => v = .pointer (some ⟨w.heap.size + 1, 3, none⟩)
            | 10 => v = .int .i64 etp
            | 11 => v = .bool tk2
            | 12 => v = .int .i64 0
            | _ => True) (by kernel_rfl) (by kernel_rfl) (by kernel_rfl) (by kernel_rfl) ?_ ?_ ?_
        · intro i w v w' h hb
          match i, h with
          | 0, h => exact h
          | 1, h => exact h
          | 2, h => exact h
          | 3, h => exact h
          | 4, h => exact h
          | 5, h => exact h
          | 6, h => exact h
          | 7, h => exact h
          | 8, h => exact h
          | 9, h => exact h
          | 10, h => exact h
          | 11, h => exact h
          | 12, h => exact h
          | _ + 13, _ => trivial
        · intro i o ρ w' hi ho hb hc hf hfr hdep
          have g0 := cell_keep hb gy0
          have g1 := cell_keep hb gy1
          have g2 := cell_keep hb gy2
          have g3 := cell_keep hb gy3
          have g4 := cell_keep hb gy4
          have b0 := cell_keep hb bc0
          have b1 := cell_keep hb bc1
          have b2 := cell_keep hb bc2
          have b3 := cell_keep hb bc3
          match i, hi with
          | 0, _ =>
            simp only [gTA, gCZ, gSI] at ho
            subst ho
            have ts : ρ (.tmp 2) = .pointer (some ⟨w.heap.size, 0, none⟩) := hfr 2 (by kernel_rfl)
            simp [go_sem, ts, g0, g1, g2, g3, g4]
            exact ⟨Below.refl _ _, rfl⟩
          | 1, _ =>
            simp only [gTA, gCZ, gCS, gSI] at ho
            subst ho
            have ts : ρ (.tmp 6) = .pointer (some ⟨w.heap.size + 1, 0, none⟩) := hfr 6 (by kernel_rfl)
            simp [go_sem, ts]
            exact ⟨Below.refl _ _, rfl⟩
          | 2, _ =>
            simp only [gTA, gCZ, gCS, gSI] at ho
            subst ho
            have ts : ρ (.tmp 30) = .pointer (some ⟨w.heap.size + 1, 2, none⟩) := hdep 1 30 (by kernel_rfl) (by kernel_rfl)
            simp [go_sem, ts, b2]
            exact ⟨Below.refl _ _, rfl⟩
          | 3, _ =>
            simp only [gTA, gCZ, gCS, gSI] at ho
            subst ho
            have ts : ρ (.tmp 6) = .pointer (some ⟨w.heap.size + 1, 0, none⟩) := hfr 6 (by kernel_rfl)
            simp [go_sem, ts]
            exact ⟨Below.refl _ _, rfl⟩
          | 4, _ =>
            simp only [gTA, gCZ, gCS, gSI] at ho
            subst ho
            have ts : ρ (.tmp 32) = .pointer (some ⟨w.heap.size + 1, 3, none⟩) := hdep 3 32 (by kernel_rfl) (by kernel_rfl)
            simp [go_sem, ts, b3]
            exact ⟨Below.refl _ _, rfl⟩
          | 5, _ =>
            simp only [gTA, gCZ, gCS, gSI] at ho
            subst ho
            have ts : ρ (.tmp 2) = .pointer (some ⟨w.heap.size, 0, none⟩) := hfr 2 (by kernel_rfl)
            simp [go_sem, ts, g0, g1, g2, g3, g4]
            exact ⟨Below.refl _ _, rfl⟩
          | 6, _ =>
            simp only [gTA, gCZ, gCS, gSI] at ho
            subst ho
            have ts : ρ (.tmp 1) = .int .i64 (k : Int) := hfr 1 (by kernel_rfl)
            simp [go_sem, ts]
            exact ⟨Below.refl _ _, rfl⟩
          | 7, _ =>
            simp only [gTA, gCZ, gCS, gSI] at ho
            subst ho
            have ts : ρ (.tmp 6) = .pointer (some ⟨w.heap.size + 1, 0, none⟩) := hfr 6 (by kernel_rfl)
            simp [go_sem, ts]
            exact ⟨Below.refl _ _, rfl⟩
          | 8, _ =>
            simp only [gTA, gCZ, gCS, gSI] at ho
            subst ho
            have ts : ρ (.tmp 36) = .pointer (some ⟨w.heap.size + 1, 2, none⟩) := hdep 7 36 (by kernel_rfl) (by kernel_rfl)
            simp [go_sem, ts, b2]
            exact ⟨Below.refl _ _, rfl⟩
          | 9, _ =>
            simp only [gTA, gCZ, gCS, gSI] at ho
            subst ho
            have ts : ρ (.tmp 6) = .pointer (some ⟨w.heap.size + 1, 0, none⟩) := hfr 6 (by kernel_rfl)
            simp [go_sem, ts]
            exact ⟨Below.refl _ _, rfl⟩
          | 10, _ =>
            simp only [gTA, gCZ, gCS, gSI] at ho
            subst ho
            have ts : ρ (.tmp 38) = .pointer (some ⟨w.heap.size + 1, 3, none⟩) := hdep 9 38 (by kernel_rfl) (by kernel_rfl)
            simp [go_sem, ts, b3]
            exact ⟨Below.refl _ _, rfl⟩
          | 11, _ =>
            simp only [gTA, gCZ, gCS, gSI] at ho
            subst ho
            have t0 : ρ (.tmp 34) = .agg #[.string (str g.name), .slice a1 g.actors.length c1, .slice (some ⟨b, off, none⟩) g.edges.length c2, .slice a3 g.ins.length c3, .slice a4 g.outs.length c4] := hdep 5 34 (by kernel_rfl) (by kernel_rfl)
            have t1 : ρ (.tmp 35) = .int .i64 (k : Int) := hdep 6 35 (by kernel_rfl) (by kernel_rfl)
            have t2 : ρ (.tmp 37) = .int .i64 et := hdep 8 37 (by kernel_rfl) (by kernel_rfl)
            have t3 : ρ (.tmp 39) = .int .i64 etp := hdep 10 39 (by kernel_rfl) (by kernel_rfl)
            simp [go_sem, t0, t1, t2, t3, hf, hc]
            exact ⟨rfl, (ITV.out w' hb).mono fun e w'' hh => ⟨_, hh.1, hh.2, rfl⟩⟩
          | 12, _ =>
            simp only [gTA, gCZ, gCS, gSI] at ho
            subst ho
            have t0 : ρ (.tmp 29) = .agg #[.string (str g.name), .slice a1 g.actors.length c1, .slice (some ⟨b, off, none⟩) g.edges.length c2, .slice a3 g.ins.length c3, .slice a4 g.outs.length c4] := hdep 0 29 (by kernel_rfl) (by kernel_rfl)
            have t1 : ρ (.tmp 31) = .int .i64 et := hdep 2 31 (by kernel_rfl) (by kernel_rfl)
            have t2 : ρ (.tmp 33) = .int .i64 etp := hdep 4 33 (by kernel_rfl) (by kernel_rfl)
            have t3 : ρ (.tmp 40) = .bool tk2 := hdep 11 40 (by kernel_rfl) (by kernel_rfl)
            simp [go_sem, t0, t1, t2, t3, hf, hc]
            exact ⟨rfl, (EIV.out w' hb).mono fun e w'' hh => ⟨_, hh.1, hh.2, rfl⟩⟩
        · intro V9 w8 q8 hS
          have e0 : V9 0 = .agg #[.string (str g.name), .slice a1 g.actors.length c1, .slice (some ⟨b, off, none⟩) g.edges.length c2, .slice a3 g.ins.length c3, .slice a4 g.outs.length c4] := hS 0 (by decide)
          have e1 : V9 1 = .pointer (some ⟨w.heap.size + 1, 2, none⟩) := hS 1 (by decide)
          have e2 : V9 2 = .int .i64 et := hS 2 (by decide)
          have e3 : V9 3 = .pointer (some ⟨w.heap.size + 1, 3, none⟩) := hS 3 (by decide)
          have e4 : V9 4 = .int .i64 etp := hS 4 (by decide)
          have e5 : V9 5 = .agg #[.string (str g.name), .slice a1 g.actors.length c1, .slice (some ⟨b, off, none⟩) g.edges.length c2, .slice a3 g.ins.length c3, .slice a4 g.outs.length c4] := hS 5 (by decide)
          have e6 : V9 6 = .int .i64 (k : Int) := hS 6 (by decide)
          have e7 : V9 7 = .pointer (some ⟨w.heap.size + 1, 2, none⟩) := hS 7 (by decide)
          have e8 : V9 8 = .int .i64 et := hS 8 (by decide)
          have e9 : V9 9 = .pointer (some ⟨w.heap.size + 1, 3, none⟩) := hS 9 (by decide)
          have e10 : V9 10 = .int .i64 etp := hS 10 (by decide)
          have e11 : V9 11 = .bool tk2 := hS 11 (by decide)
          have e12 : V9 12 = .int .i64 0 := hS 12 (by decide)
          simp only [List.drop_succ_cons, List.drop_zero, List.take_succ_cons, List.take_zero, puts, e0, e1, e2, e3, e4, e5, e6, e7, e8, e9, e10, e11, e12]
          clear hS e0 e1 e2 e3 e4 e5 e6 e7 e8 e9 e10 e11 e12 V9
          simp only [Act.put, List.setIfInBounds_toArray, List.set_cons_zero, List.set_cons_succ]
          have B8 := hiddenG (BW.out.trans (q8.mono BW.out.size))
          have bd4 := cell_keep q8 bc4
          clear q8
          by_cases h3 : 256 < es.length
          · have h4 : (es.length : Int) > 256 := by omega
            go_wp2
            refine bodyPost_ret (v := .tuple #[.int .i64 88, .int .i64 0]) (by simp [results, Try.results51, go_sem]) rfl ?_
            exact ⟨by rw [HC.out, if_neg (by decide), if_neg (by decide), if_pos h3]; rfl, B8.out⟩
          · have h4 : ¬ (es.length : Int) > 256 := by omega
            go_wp2
            refine bodyPost_ret (v := .tuple #[.int .i64 0, .int .i64 0]) (by simp [results, Try.results51, go_sem]) rfl ?_
            exact ⟨by rw [HC.out, if_neg (by decide), if_neg (by decide), if_neg h3]; rfl, B8.out⟩
      · have h3 : (ie != 0) = true := by simpa using h2
        refine wp_region_said 13 (fun i u v => match i with
            | 0 => v = .agg #[.string (str g.name), .slice a1 g.actors.length c1, .slice (some ⟨b, off, none⟩) g.edges.length c2, .slice a3 g.ins.length c3, .slice a4 g.outs.length c4]
            | 1 => v = .pointer (some ⟨w.heap.size + 1, 2, none⟩)
            | 2 => v = .int .i64 et
            | 3 => v = .pointer (some ⟨w.heap.size + 1, 3, none⟩)
            | 4 => v = .int .i64 etp
            | 5 => v = .agg #[.string (str g.name), .slice a1 g.actors.length c1, .slice (some ⟨b, off, none⟩) g.edges.length c2, .slice a3 g.ins.length c3, .slice a4 g.outs.length c4]
            | 6 => v = .int .i64 (k : Int)
            | 7 => v = .pointer (some ⟨w.heap.size + 1, 2, none⟩)
            | 8 => v = .int .i64 et
            | 9 => v = .pointer (some ⟨w.heap.size + 1, 3, none⟩)
            | 10 => v = .int .i64 etp
            | 11 => v = .bool tk2
            | 12 => v = .int .i64 ie
            | _ => True) (by kernel_rfl) (by kernel_rfl) (by kernel_rfl) (by kernel_rfl) ?_ ?_ ?_
        · intro i w v w' h hb
          match i, h with
          | 0, h => exact h
          | 1, h => exact h
          | 2, h => exact h
          | 3, h => exact h
          | 4, h => exact h
          | 5, h => exact h
          | 6, h => exact h
          | 7, h => exact h
          | 8, h => exact h
          | 9, h => exact h
          | 10, h => exact h
          | 11, h => exact h
          | 12, h => exact h
          | _ + 13, _ => trivial
        · intro i o ρ w' hi ho hb hc hf hfr hdep
          have g0 := cell_keep hb gy0
          have g1 := cell_keep hb gy1
          have g2 := cell_keep hb gy2
          have g3 := cell_keep hb gy3
          have g4 := cell_keep hb gy4
          have b0 := cell_keep hb bc0
          have b1 := cell_keep hb bc1
          have b2 := cell_keep hb bc2
          have b3 := cell_keep hb bc3
          match i, hi with
          | 0, _ =>
            simp only [gTA, gCZ, gSI] at ho
            subst ho
            have ts : ρ (.tmp 2) = .pointer (some ⟨w.heap.size, 0, none⟩) := hfr 2 (by kernel_rfl)
            simp [go_sem, ts, g0, g1, g2, g3, g4]
            exact ⟨Below.refl _ _, rfl⟩
          | 1, _ =>
            simp only [gTA, gCZ, gCS, gSI] at ho
            subst ho
            have ts : ρ (.tmp 6) = .pointer (some ⟨w.heap.size + 1, 0, none⟩) := hfr 6 (by kernel_rfl)
            simp [go_sem, ts]
            exact ⟨Below.refl _ _, rfl⟩
          | 2, _ =>
            simp only [gTA, gCZ, gCS, gSI] at ho
            subst ho
            have ts : ρ (.tmp 30) = .pointer (some ⟨w.heap.size + 1, 2, none⟩) := hdep 1 30 (by kernel_rfl) (by kernel_rfl)
            simp [go_sem, ts, b2]
            exact ⟨Below.refl _ _, rfl⟩
          | 3, _ =>
            simp only [gTA, gCZ, gCS, gSI] at ho
            subst ho
            have ts : ρ (.tmp 6) = .pointer (some ⟨w.heap.size + 1, 0, none⟩) := hfr 6 (by kernel_rfl)
            simp [go_sem, ts]
            exact ⟨Below.refl _ _, rfl⟩
          | 4, _ =>
            simp only [gTA, gCZ, gCS, gSI] at ho
            subst ho
            have ts : ρ (.tmp 32) = .pointer (some ⟨w.heap.size + 1, 3, none⟩) := hdep 3 32 (by kernel_rfl) (by kernel_rfl)
            simp [go_sem, ts, b3]
            exact ⟨Below.refl _ _, rfl⟩
          | 5, _ =>
            simp only [gTA, gCZ, gCS, gSI] at ho
            subst ho
            have ts : ρ (.tmp 2) = .pointer (some ⟨w.heap.size, 0, none⟩) := hfr 2 (by kernel_rfl)
            simp [go_sem, ts, g0, g1, g2, g3, g4]
            exact ⟨Below.refl _ _, rfl⟩
          | 6, _ =>
            simp only [gTA, gCZ, gCS, gSI] at ho
            subst ho
            have ts : ρ (.tmp 1) = .int .i64 (k : Int) := hfr 1 (by kernel_rfl)
            simp [go_sem, ts]
            exact ⟨Below.refl _ _, rfl⟩
          | 7, _ =>
            simp only [gTA, gCZ, gCS, gSI] at ho
            subst ho
            have ts : ρ (.tmp 6) = .pointer (some ⟨w.heap.size + 1, 0, none⟩) := hfr 6 (by kernel_rfl)
            simp [go_sem, ts]
            exact ⟨Below.refl _ _, rfl⟩
          | 8, _ =>
            simp only [gTA, gCZ, gCS, gSI] at ho
            subst ho
            have ts : ρ (.tmp 36) = .pointer (some ⟨w.heap.size + 1, 2, none⟩) := hdep 7 36 (by kernel_rfl) (by kernel_rfl)
            simp [go_sem, ts, b2]
            exact ⟨Below.refl _ _, rfl⟩
          | 9, _ =>
            simp only [gTA, gCZ, gCS, gSI] at ho
            subst ho
            have ts : ρ (.tmp 6) = .pointer (some ⟨w.heap.size + 1, 0, none⟩) := hfr 6 (by kernel_rfl)
            simp [go_sem, ts]
            exact ⟨Below.refl _ _, rfl⟩
          | 10, _ =>
            simp only [gTA, gCZ, gCS, gSI] at ho
            subst ho
            have ts : ρ (.tmp 38) = .pointer (some ⟨w.heap.size + 1, 3, none⟩) := hdep 9 38 (by kernel_rfl) (by kernel_rfl)
            simp [go_sem, ts, b3]
            exact ⟨Below.refl _ _, rfl⟩
          | 11, _ =>
            simp only [gTA, gCZ, gCS, gSI] at ho
            subst ho
            have t0 : ρ (.tmp 34) = .agg #[.string (str g.name), .slice a1 g.actors.length c1, .slice (some ⟨b, off, none⟩) g.edges.length c2, .slice a3 g.ins.length c3, .slice a4 g.outs.length c4] := hdep 5 34 (by kernel_rfl) (by kernel_rfl)
            have t1 : ρ (.tmp 35) = .int .i64 (k : Int) := hdep 6 35 (by kernel_rfl) (by kernel_rfl)
            have t2 : ρ (.tmp 37) = .int .i64 et := hdep 8 37 (by kernel_rfl) (by kernel_rfl)
            have t3 : ρ (.tmp 39) = .int .i64 etp := hdep 10 39 (by kernel_rfl) (by kernel_rfl)
            simp [go_sem, t0, t1, t2, t3, hf, hc]
            exact ⟨rfl, (ITV.out w' hb).mono fun e w'' hh => ⟨_, hh.1, hh.2, rfl⟩⟩
          | 12, _ =>
            simp only [gTA, gCZ, gCS, gSI] at ho
            subst ho
            have t0 : ρ (.tmp 29) = .agg #[.string (str g.name), .slice a1 g.actors.length c1, .slice (some ⟨b, off, none⟩) g.edges.length c2, .slice a3 g.ins.length c3, .slice a4 g.outs.length c4] := hdep 0 29 (by kernel_rfl) (by kernel_rfl)
            have t1 : ρ (.tmp 31) = .int .i64 et := hdep 2 31 (by kernel_rfl) (by kernel_rfl)
            have t2 : ρ (.tmp 33) = .int .i64 etp := hdep 4 33 (by kernel_rfl) (by kernel_rfl)
            have t3 : ρ (.tmp 40) = .bool tk2 := hdep 11 40 (by kernel_rfl) (by kernel_rfl)
            simp [go_sem, t0, t1, t2, t3, hf, hc]
            exact ⟨rfl, (EIV.out w' hb).mono fun e w'' hh => ⟨_, hh.1, hh.2, rfl⟩⟩
        · intro V9 w8 q8 hS
          have e0 : V9 0 = .agg #[.string (str g.name), .slice a1 g.actors.length c1, .slice (some ⟨b, off, none⟩) g.edges.length c2, .slice a3 g.ins.length c3, .slice a4 g.outs.length c4] := hS 0 (by decide)
          have e1 : V9 1 = .pointer (some ⟨w.heap.size + 1, 2, none⟩) := hS 1 (by decide)
          have e2 : V9 2 = .int .i64 et := hS 2 (by decide)
          have e3 : V9 3 = .pointer (some ⟨w.heap.size + 1, 3, none⟩) := hS 3 (by decide)
          have e4 : V9 4 = .int .i64 etp := hS 4 (by decide)
          have e5 : V9 5 = .agg #[.string (str g.name), .slice a1 g.actors.length c1, .slice (some ⟨b, off, none⟩) g.edges.length c2, .slice a3 g.ins.length c3, .slice a4 g.outs.length c4] := hS 5 (by decide)
          have e6 : V9 6 = .int .i64 (k : Int) := hS 6 (by decide)
          have e7 : V9 7 = .pointer (some ⟨w.heap.size + 1, 2, none⟩) := hS 7 (by decide)
          have e8 : V9 8 = .int .i64 et := hS 8 (by decide)
          have e9 : V9 9 = .pointer (some ⟨w.heap.size + 1, 3, none⟩) := hS 9 (by decide)
          have e10 : V9 10 = .int .i64 etp := hS 10 (by decide)
          have e11 : V9 11 = .bool tk2 := hS 11 (by decide)
          have e12 : V9 12 = .int .i64 ie := hS 12 (by decide)
          simp only [List.drop_succ_cons, List.drop_zero, List.take_succ_cons, List.take_zero, puts, e0, e1, e2, e3, e4, e5, e6, e7, e8, e9, e10, e11, e12]
          clear hS e0 e1 e2 e3 e4 e5 e6 e7 e8 e9 e10 e11 e12 V9
          simp only [Act.put, List.setIfInBounds_toArray, List.set_cons_zero, List.set_cons_succ]
          have B8 := hiddenG (BW.out.trans (q8.mono BW.out.size))
          clear q8
          go_wp2
          refine bodyPost_ret (v := .tuple #[.int .i64 ie, .int .i64 2]) (by simp [results, Try.results51, go_sem]) rfl ?_
          exact ⟨by rw [HC.out, if_neg (by decide), if_pos h2]; rfl, B8.out⟩
  · have h2 : (oe != 0) = true := by simpa using h1
    refine wp_region_said 13 (fun i u v => match i with
        | 0 => v = .agg #[.string (str g.name), .slice a1 g.actors.length c1, .slice (some ⟨b, off, none⟩) g.edges.length c2, .slice a3 g.ins.length c3, .slice a4 g.outs.length c4]
        | 1 => v = .pointer (some ⟨w.heap.size + 1, 0, none⟩)
        | 2 => v = .int .i64 ef
        | 3 => v = .pointer (some ⟨w.heap.size + 1, 1, none⟩)
        | 4 => v = .int .i64 efp
        | 5 => v = .agg #[.string (str g.name), .slice a1 g.actors.length c1, .slice (some ⟨b, off, none⟩) g.edges.length c2, .slice a3 g.ins.length c3, .slice a4 g.outs.length c4]
        | 6 => v = .int .i64 (k : Int)
        | 7 => v = .pointer (some ⟨w.heap.size + 1, 0, none⟩)
        | 8 => v = .int .i64 ef
        | 9 => v = .pointer (some ⟨w.heap.size + 1, 1, none⟩)
        | 10 => v = .int .i64 efp
        | 11 => v = .bool tk1
        | 12 => v = .int .i64 oe
        | _ => True) (by kernel_rfl) (by kernel_rfl) (by kernel_rfl) (by kernel_rfl) ?_ ?_ ?_
    · intro i w v w' h hb
      match i, h with
      | 0, h => exact h
      | 1, h => exact h
      | 2, h => exact h
      | 3, h => exact h
      | 4, h => exact h
      | 5, h => exact h
      | 6, h => exact h
      | 7, h => exact h
      | 8, h => exact h
      | 9, h => exact h
      | 10, h => exact h
      | 11, h => exact h
      | 12, h => exact h
      | _ + 13, _ => trivial
    · intro i o ρ w' hi ho hb hc hf hfr hdep
      have g0 := cell_keep hb gx0
      have g1 := cell_keep hb gx1
      have g2 := cell_keep hb gx2
      have g3 := cell_keep hb gx3
      have g4 := cell_keep hb gx4
      have b0 := cell_keep hb bb0
      have b1 := cell_keep hb bb1
      have b2 := cell_keep hb bb2
      have b3 := cell_keep hb bb3
      match i, hi with
      | 0, _ =>
        simp only [gTA, gCZ, gSI] at ho
        subst ho
        have ts : ρ (.tmp 2) = .pointer (some ⟨w.heap.size, 0, none⟩) := hfr 2 (by kernel_rfl)
        simp [go_sem, ts, g0, g1, g2, g3, g4]
        exact ⟨Below.refl _ _, rfl⟩
      | 1, _ =>
        simp only [gTA, gCZ, gCS, gSI] at ho
        subst ho
        have ts : ρ (.tmp 6) = .pointer (some ⟨w.heap.size + 1, 0, none⟩) := hfr 6 (by kernel_rfl)
        simp [go_sem, ts]
        exact ⟨Below.refl _ _, rfl⟩
      | 2, _ =>
        simp only [gTA, gCZ, gCS, gSI] at ho
        subst ho
        have ts : ρ (.tmp 14) = .pointer (some ⟨w.heap.size + 1, 0, none⟩) := hdep 1 14 (by kernel_rfl) (by kernel_rfl)
        simp [go_sem, ts, b0]
        exact ⟨Below.refl _ _, rfl⟩
      | 3, _ =>
        simp only [gTA, gCZ, gCS, gSI] at ho
        subst ho
        have ts : ρ (.tmp 6) = .pointer (some ⟨w.heap.size + 1, 0, none⟩) := hfr 6 (by kernel_rfl)
        simp [go_sem, ts]
        exact ⟨Below.refl _ _, rfl⟩
      | 4, _ =>
        simp only [gTA, gCZ, gCS, gSI] at ho
        subst ho
        have ts : ρ (.tmp 16) = .pointer (some ⟨w.heap.size + 1, 1, none⟩) := hdep 3 16 (by kernel_rfl) (by kernel_rfl)
        simp [go_sem, ts, b1]
        exact ⟨Below.refl _ _, rfl⟩
      | 5, _ =>
        simp only [gTA, gCZ, gCS, gSI] at ho
        subst ho
        have ts : ρ (.tmp 2) = .pointer (some ⟨w.heap.size, 0, none⟩) := hfr 2 (by kernel_rfl)
        simp [go_sem, ts, g0, g1, g2, g3, g4]
        exact ⟨Below.refl _ _, rfl⟩
      | 6, _ =>
        simp only [gTA, gCZ, gCS, gSI] at ho
        subst ho
        have ts : ρ (.tmp 1) = .int .i64 (k : Int) := hfr 1 (by kernel_rfl)
        simp [go_sem, ts]
        exact ⟨Below.refl _ _, rfl⟩
      | 7, _ =>
        simp only [gTA, gCZ, gCS, gSI] at ho
        subst ho
        have ts : ρ (.tmp 6) = .pointer (some ⟨w.heap.size + 1, 0, none⟩) := hfr 6 (by kernel_rfl)
        simp [go_sem, ts]
        exact ⟨Below.refl _ _, rfl⟩
      | 8, _ =>
        simp only [gTA, gCZ, gCS, gSI] at ho
        subst ho
        have ts : ρ (.tmp 20) = .pointer (some ⟨w.heap.size + 1, 0, none⟩) := hdep 7 20 (by kernel_rfl) (by kernel_rfl)
        simp [go_sem, ts, b0]
        exact ⟨Below.refl _ _, rfl⟩
      | 9, _ =>
        simp only [gTA, gCZ, gCS, gSI] at ho
        subst ho
        have ts : ρ (.tmp 6) = .pointer (some ⟨w.heap.size + 1, 0, none⟩) := hfr 6 (by kernel_rfl)
        simp [go_sem, ts]
        exact ⟨Below.refl _ _, rfl⟩
      | 10, _ =>
        simp only [gTA, gCZ, gCS, gSI] at ho
        subst ho
        have ts : ρ (.tmp 22) = .pointer (some ⟨w.heap.size + 1, 1, none⟩) := hdep 9 22 (by kernel_rfl) (by kernel_rfl)
        simp [go_sem, ts, b1]
        exact ⟨Below.refl _ _, rfl⟩
      | 11, _ =>
        simp only [gTA, gCZ, gCS, gSI] at ho
        subst ho
        have t0 : ρ (.tmp 18) = .agg #[.string (str g.name), .slice a1 g.actors.length c1, .slice (some ⟨b, off, none⟩) g.edges.length c2, .slice a3 g.ins.length c3, .slice a4 g.outs.length c4] := hdep 5 18 (by kernel_rfl) (by kernel_rfl)
        have t1 : ρ (.tmp 19) = .int .i64 (k : Int) := hdep 6 19 (by kernel_rfl) (by kernel_rfl)
        have t2 : ρ (.tmp 21) = .int .i64 ef := hdep 8 21 (by kernel_rfl) (by kernel_rfl)
        have t3 : ρ (.tmp 23) = .int .i64 efp := hdep 10 23 (by kernel_rfl) (by kernel_rfl)
        simp [go_sem, t0, t1, t2, t3, hf, hc]
        exact ⟨rfl, (OTV.out w' hb).mono fun e w'' hh => ⟨_, hh.1, hh.2, rfl⟩⟩
      | 12, _ =>
        simp only [gTA, gCZ, gCS, gSI] at ho
        subst ho
        have t0 : ρ (.tmp 13) = .agg #[.string (str g.name), .slice a1 g.actors.length c1, .slice (some ⟨b, off, none⟩) g.edges.length c2, .slice a3 g.ins.length c3, .slice a4 g.outs.length c4] := hdep 0 13 (by kernel_rfl) (by kernel_rfl)
        have t1 : ρ (.tmp 15) = .int .i64 ef := hdep 2 15 (by kernel_rfl) (by kernel_rfl)
        have t2 : ρ (.tmp 17) = .int .i64 efp := hdep 4 17 (by kernel_rfl) (by kernel_rfl)
        have t3 : ρ (.tmp 24) = .bool tk1 := hdep 11 24 (by kernel_rfl) (by kernel_rfl)
        simp [go_sem, t0, t1, t2, t3, hf, hc]
        exact ⟨rfl, (EOV.out w' hb).mono fun e w'' hh => ⟨_, hh.1, hh.2, rfl⟩⟩
    · intro V9 w9 q9 hS
      have e0 : V9 0 = .agg #[.string (str g.name), .slice a1 g.actors.length c1, .slice (some ⟨b, off, none⟩) g.edges.length c2, .slice a3 g.ins.length c3, .slice a4 g.outs.length c4] := hS 0 (by decide)
      have e1 : V9 1 = .pointer (some ⟨w.heap.size + 1, 0, none⟩) := hS 1 (by decide)
      have e2 : V9 2 = .int .i64 ef := hS 2 (by decide)
      have e3 : V9 3 = .pointer (some ⟨w.heap.size + 1, 1, none⟩) := hS 3 (by decide)
      have e4 : V9 4 = .int .i64 efp := hS 4 (by decide)
      have e5 : V9 5 = .agg #[.string (str g.name), .slice a1 g.actors.length c1, .slice (some ⟨b, off, none⟩) g.edges.length c2, .slice a3 g.ins.length c3, .slice a4 g.outs.length c4] := hS 5 (by decide)
      have e6 : V9 6 = .int .i64 (k : Int) := hS 6 (by decide)
      have e7 : V9 7 = .pointer (some ⟨w.heap.size + 1, 0, none⟩) := hS 7 (by decide)
      have e8 : V9 8 = .int .i64 ef := hS 8 (by decide)
      have e9 : V9 9 = .pointer (some ⟨w.heap.size + 1, 1, none⟩) := hS 9 (by decide)
      have e10 : V9 10 = .int .i64 efp := hS 10 (by decide)
      have e11 : V9 11 = .bool tk1 := hS 11 (by decide)
      have e12 : V9 12 = .int .i64 oe := hS 12 (by decide)
      simp only [List.drop_succ_cons, List.drop_zero, List.take_succ_cons, List.take_zero, puts, e0, e1, e2, e3, e4, e5, e6, e7, e8, e9, e10, e11, e12]
      clear hS e0 e1 e2 e3 e4 e5 e6 e7 e8 e9 e10 e11 e12 V9
      simp only [Act.put, List.setIfInBounds_toArray, List.set_cons_zero, List.set_cons_succ]
      have B8 := hiddenG (BV.out.trans (q9.mono BV.out.size))
      clear q9
      go_wp2
      refine bodyPost_ret (v := .tuple #[.int .i64 oe, .int .i64 1]) (by simp [results, Try.results51, go_sem]) rfl ?_
      exact ⟨by rw [HC.out, if_pos h1]; rfl, B8.out⟩
set_option maxRecDepth 100000 in
set_option maxHeartbeats 8000000 in
theorem in8_any (g : GG) (a1 a2 a3 a4 : Option Addr) (c1 c2 c3 c4 : Nat) (k : Nat) (w : World) (h : GrG w a1 a2 a3 a4 g) (hk : k < g.ins.length) :
    Calls Try.prog 52 #[.agg #[.string (str g.name), .slice a1 g.actors.length c1, .slice a2 g.edges.length c2, .slice a3 g.ins.length c3, .slice a4 g.outs.length c4], .int .i64 (k : Int)] w fun e w' => e = .returned (.tuple #[.int .i64 (inC g k).1, .int .i64 ((inC g k).2 : Int)]) ∧ Below w.heap.size w w' := by
  have hki : (k : Int) < (g.ins.length : Int) := by omega
  have n1 : (g.actors.length : Int) ≤ 1000000000000000 := by have := h.l1; omega
  have n2 : (g.edges.length : Int) ≤ 1000000000000000 := by have := h.l2; omega
  have n3 : (g.ins.length : Int) ≤ 1000000000000000 := by have := h.l3; omega
  have n4 : (g.outs.length : Int) ≤ 1000000000000000 := by have := h.l4; omega
  have ba := (Below.refl w.heap.size w).alloc (Nat.le_refl _) (.cells #[.string (str g.name), .slice a1 g.actors.length c1, .slice a2 g.edges.length c2, .slice a3 g.ins.length c3, .slice a4 g.outs.length c4] 31)
  have HG := hiddenG h
  have NM : Hid (∀ U, Below w.heap.size w U → Calls Try.prog 70 #[.agg #[.string (str g.name), .slice a1 g.actors.length c1, .slice a2 g.edges.length c2, .slice a3 g.ins.length c3, .slice a4 g.outs.length c4], .int .i64 (g.actors.length : Int), .int .i64 (k : Int), .int .i64 0, .string (str (nthP g.ins k).name)] U fun e w' => e = .returned (.bool (namedB g g.actors.length k 0 (nthP g.ins k).name)) ∧ Below U.heap.size U w') := fun U hb => named_any g a1 a2 a3 a4 c1 c2 c3 c4 g.actors.length k 0 _ U (HG.out.below hb) (Nat.le_refl _) (Nat.le_of_lt hk) (Nat.zero_le _)
  have RN : Hid (∀ U, Calls Try.prog 48 #[.string (str (nthP g.ins k).name)] U fun e w' => e = .returned (.bool (nameB (nthP g.ins k).name)) ∧ U = w') := fun U => rname_any _ U
  have TK : Hid (∀ U, Below w.heap.size w U → Calls Try.prog 74 #[.agg #[.string (str g.name), .slice a1 g.actors.length c1, .slice a2 g.edges.length c2, .slice a3 g.ins.length c3, .slice a4 g.outs.length c4], .int .i64 (g.edges.length : Int), .int .i64 (k : Int), .int .i64 (nthP g.ins k).actor, .int .i64 (nthP g.ins k).port] U fun e w' => e = .returned (.bool (inTk g g.edges.length k (nthP g.ins k).actor (nthP g.ins k).port)) ∧ Below U.heap.size U w') := fun U hb => inTaken_any g a1 a2 a3 a4 c1 c2 c3 c4 g.edges.length k _ _ U (HG.out.below hb) (Nat.le_refl _) (Nat.le_of_lt hk)
  have EN : Hid (∀ U, Below w.heap.size w U → Calls Try.prog 72 #[.agg #[.string (str g.name), .slice a1 g.actors.length c1, .slice a2 g.edges.length c2, .slice a3 g.ins.length c3, .slice a4 g.outs.length c4], .int .i64 (nthP g.ins k).actor, .int .i64 (nthP g.ins k).port, .bool false, .bool (inTk g g.edges.length k (nthP g.ins k).actor (nthP g.ins k).port)] U fun e w' => e = .returned (.int .i64 (inEnd g g.edges.length k (nthP g.ins k).actor (nthP g.ins k).port)) ∧ Below U.heap.size U w') := fun U hb => end8_any g a1 a2 a3 a4 c1 c2 c3 c4 _ _ false _ U (HG.out.below hb)
  have HC : Hid (inC g k = if nameB (nthP g.ins k).name = false then (82, 0) else if namedB g g.actors.length k 0 (nthP g.ins k).name = true then (83, 0) else (inEnd g g.edges.length k (nthP g.ins k).actor (nthP g.ins k).port, 2)) := by rfl
  have B0 := hiddenG (gbox_new w #[.string (str g.name), .slice a1 g.actors.length c1, .slice a2 g.edges.length c2, .slice a3 g.ins.length c3, .slice a4 g.outs.length c4])
  have y2 := B0.out.1.cell (k := 3) rfl
  obtain ⟨b, off, ha2, hc⟩ : ∃ b off, a3 = some ⟨b, off, none⟩ ∧ ∀ j, j < g.ins.length → _ := by
    rcases (h.below ba).I with e | q
    · rw [e] at hk; exact absurd hk (Nat.not_lt_zero _)
    · exact q
  obtain ⟨x0, x1, x2⟩ := hc k hk
  rw [ha2] at y2
  clear hc ba h
  generalize namedB g g.actors.length k 0 (nthP g.ins k).name = q2 at *
  generalize inEnd g g.edges.length k (nthP g.ins k).actor (nthP g.ins k).port = ev at *
  generalize inTk g g.edges.length k (nthP g.ins k).actor (nthP g.ins k).port = tk at *
  generalize nthP g.ins k = E at *
  obtain ⟨en, ac, po⟩ := E
  simp only at x0 x1 x2 NM RN TK EN HC
  generalize nameB en = q1 at *
  have bv := B0.out.2.trans (((Below.refl (w.alloc (.cells #[.string (str g.name), .slice a1 g.actors.length c1, .slice a2 g.edges.length c2, .slice a3 g.ins.length c3, .slice a4 g.outs.length c4] 31)).heap.size (w.alloc (.cells #[.string (str g.name), .slice a1 g.actors.length c1, .slice a2 g.edges.length c2, .slice a3 g.ins.length c3, .slice a4 g.outs.length c4] 31))).alloc (Nat.le_refl _) (.cells #[.string (str en), .int .i64 ac, .int .i64 po] 83)).mono B0.out.2.size)
  have GB := hiddenG (B0.out.1.below ((Below.refl (w.alloc (.cells #[.string (str g.name), .slice a1 g.actors.length c1, .slice a2 g.edges.length c2, .slice a3 g.ins.length c3, .slice a4 g.outs.length c4] 31)).heap.size (w.alloc (.cells #[.string (str g.name), .slice a1 g.actors.length c1, .slice a2 g.edges.length c2, .slice a3 g.ins.length c3, .slice a4 g.outs.length c4] 31))).alloc (Nat.le_refl _) (.cells #[.string (str en), .int .i64 ac, .int .i64 po] 83)))
  have BX : Hid (BlkA 83 (w.heap.size + 1) ((w.alloc (.cells #[.string (str g.name), .slice a1 g.actors.length c1, .slice a2 g.edges.length c2, .slice a3 g.ins.length c3, .slice a4 g.outs.length c4] 31)).alloc (.cells #[.string (str en), .int .i64 ac, .int .i64 po] 83)) #[.string (str en), .int .i64 ac, .int .i64 po]) := by
    have q := blkA_new 83 (w.alloc (.cells #[.string (str g.name), .slice a1 g.actors.length c1, .slice a2 g.edges.length c2, .slice a3 g.ins.length c3, .slice a4 g.outs.length c4] 31)) #[.string (str en), .int .i64 ac, .int .i64 po]
    rw [World.size_alloc] at q
    exact q
  have BV := hiddenG bv
  clear bv
  subst ha2
  go_enter Try.func52, Try.ntmps52
  go_upto_region 2 with fail
  generalize (w.alloc (.cells #[.string (str g.name), .slice a1 g.actors.length c1, .slice a2 g.edges.length c2, .slice (some ⟨b, off, none⟩) g.ins.length c3, .slice a4 g.outs.length c4] 31)).alloc (.cells #[.string (str en), .int .i64 ac, .int .i64 po] 83) = V at *
  have gx0 : V.cell? ⟨w.heap.size, 0, none⟩ = some (.string (str g.name)) := (GB.out).cell rfl
  have gx1 : V.cell? ⟨w.heap.size, 1, none⟩ = some (.slice a1 g.actors.length c1) := (GB.out).cell rfl
  have gx2 : V.cell? ⟨w.heap.size, 2, none⟩ = some (.slice a2 g.edges.length c2) := (GB.out).cell rfl
  have gx3 : V.cell? ⟨w.heap.size, 3, none⟩ = some (.slice (some ⟨b, off, none⟩) g.ins.length c3) := (GB.out).cell rfl
  have gx4 : V.cell? ⟨w.heap.size, 4, none⟩ = some (.slice a4 g.outs.length c4) := (GB.out).cell rfl
  have bb0 := BX.out.cell (k := 0) rfl
  have bb1 := BX.out.cell (k := 1) rfl
  have bb2 := BX.out.cell (k := 2) rfl
  clear x0 x1 x2 y2
  cases q1
  · go_wp2_with (go_at_call 48; (with_reducible refine (RN.out _).mono ?_); rintro e w' ⟨rfl, rfl⟩)
    refine bodyPost_ret (v := .tuple #[.int .i64 82, .int .i64 0]) (by simp [results, Try.results52, go_sem]) rfl ?_
    exact ⟨by rw [HC.out]; rfl, BV.out⟩
  · cases q2
    · go_upto_region 6 with (first
        | (go_at_call 70; (with_reducible refine (NM.out _ BV.out).mono ?_); rintro e w2 ⟨rfl, b2⟩; have B2 := hiddenG b2; clear b2)
        | (go_at_call 48; (with_reducible refine (RN.out _).mono ?_); rintro e w' ⟨rfl, rfl⟩))
      have BW := hiddenG (BV.out.trans (B2.out.mono BV.out.size))
      have gy0 := cell_keep B2.out gx0
      have gy1 := cell_keep B2.out gx1
      have gy2 := cell_keep B2.out gx2
      have gy3 := cell_keep B2.out gx3
      have gy4 := cell_keep B2.out gx4
      have bc0 := cell_keep B2.out bb0
      have bc1 := cell_keep B2.out bb1
      have bc2 := cell_keep B2.out bb2
      have TKV : Hid (∀ U, Below w2.heap.size w2 U → Calls Try.prog 74 #[.agg #[.string (str g.name), .slice a1 g.actors.length c1, .slice a2 g.edges.length c2, .slice (some ⟨b, off, none⟩) g.ins.length c3, .slice a4 g.outs.length c4], .int .i64 (g.edges.length : Int), .int .i64 (k : Int), .int .i64 ac, .int .i64 po] U fun e w' => e = .returned (.bool tk) ∧ Below U.heap.size U w') := fun U hb => TK.out U (BW.out.trans (hb.mono BW.out.size))
      have ENV : Hid (∀ U, Below w2.heap.size w2 U → Calls Try.prog 72 #[.agg #[.string (str g.name), .slice a1 g.actors.length c1, .slice a2 g.edges.length c2, .slice (some ⟨b, off, none⟩) g.ins.length c3, .slice a4 g.outs.length c4], .int .i64 ac, .int .i64 po, .bool false, .bool tk] U fun e w' => e = .returned (.int .i64 ev) ∧ Below U.heap.size U w') := fun U hb => EN.out U (BW.out.trans (hb.mono BW.out.size))
      clear gx0 gx1 gx2 gx3 gx4 bb0 bb1 bb2
      refine wp_region_said 16 (fun i u v => match i with
          | 0 => v = .agg #[.string (str g.name), .slice a1 g.actors.length c1, .slice a2 g.edges.length c2, .slice (some ⟨b, off, none⟩) g.ins.length c3, .slice a4 g.outs.length c4]
          | 1 => v = .pointer (some ⟨w.heap.size + 1, 1, none⟩)
          | 2 => v = .int .i64 ac
          | 3 => v = .pointer (some ⟨w.heap.size + 1, 2, none⟩)
          | 4 => v = .int .i64 po
          | 5 => v = .agg #[.string (str g.name), .slice a1 g.actors.length c1, .slice a2 g.edges.length c2, .slice (some ⟨b, off, none⟩) g.ins.length c3, .slice a4 g.outs.length c4]
          | 6 => v = .pointer (some ⟨w.heap.size, 2, none⟩)
          | 7 => v = .slice a2 g.edges.length c2
          | 8 => v = .int .i64 (g.edges.length : Int)
          | 9 => v = .int .i64 (k : Int)
          | 10 => v = .pointer (some ⟨w.heap.size + 1, 1, none⟩)
          | 11 => v = .int .i64 ac
          | 12 => v = .pointer (some ⟨w.heap.size + 1, 2, none⟩)
          | 13 => v = .int .i64 po
          | 14 => v = .bool tk
          | 15 => v = .int .i64 ev
          | _ => True) (by kernel_rfl) (by kernel_rfl) (by kernel_rfl) (by kernel_rfl) ?_ ?_ ?_
      · intro i w v w' h hb
        match i, h with
        | 0, h => exact h
        | 1, h => exact h
        | 2, h => exact h
        | 3, h => exact h
        | 4, h => exact h
        | 5, h => exact h
        | 6, h => exact h
        | 7, h => exact h
        | 8, h => exact h
        | 9, h => exact h
        | 10, h => exact h
        | 11, h => exact h
        | 12, h => exact h
        | 13, h => exact h
        | 14, h => exact h
        | 15, h => exact h
        | _ + 16, _ => trivial
      · intro i o ρ w' hi ho hb hc hf hfr hdep
        have g0 := cell_keep hb gy0
        have g1 := cell_keep hb gy1
        have g2 := cell_keep hb gy2
        have g3 := cell_keep hb gy3
        have g4 := cell_keep hb gy4
        have b0 := cell_keep hb bc0
        have b1 := cell_keep hb bc1
        have b2 := cell_keep hb bc2
        match i, hi with
        | 0, _ =>
          simp only [gTA, gCZ, gSI] at ho
          subst ho
          have ts : ρ (.tmp 2) = .pointer (some ⟨w.heap.size, 0, none⟩) := hfr 2 (by kernel_rfl)
          simp [go_sem, ts, g0, g1, g2, g3, g4]
          exact ⟨Below.refl _ _, rfl⟩
        | 1, _ =>
          simp only [gTA, gCZ, gCS, gSI] at ho
          subst ho
          have ts : ρ (.tmp 6) = .pointer (some ⟨w.heap.size + 1, 0, none⟩) := hfr 6 (by kernel_rfl)
          simp [go_sem, ts]
          exact ⟨Below.refl _ _, rfl⟩
        | 2, _ =>
          simp only [gTA, gCZ, gCS, gSI] at ho
          subst ho
          have ts : ρ (.tmp 25) = .pointer (some ⟨w.heap.size + 1, 1, none⟩) := hdep 1 25 (by kernel_rfl) (by kernel_rfl)
          simp [go_sem, ts, b1]
          exact ⟨Below.refl _ _, rfl⟩
        | 3, _ =>
          simp only [gTA, gCZ, gCS, gSI] at ho
          subst ho
          have ts : ρ (.tmp 6) = .pointer (some ⟨w.heap.size + 1, 0, none⟩) := hfr 6 (by kernel_rfl)
          simp [go_sem, ts]
          exact ⟨Below.refl _ _, rfl⟩
        | 4, _ =>
          simp only [gTA, gCZ, gCS, gSI] at ho
          subst ho
          have ts : ρ (.tmp 27) = .pointer (some ⟨w.heap.size + 1, 2, none⟩) := hdep 3 27 (by kernel_rfl) (by kernel_rfl)
          simp [go_sem, ts, b2]
          exact ⟨Below.refl _ _, rfl⟩
        | 5, _ =>
          simp only [gTA, gCZ, gCS, gSI] at ho
          subst ho
          have ts : ρ (.tmp 2) = .pointer (some ⟨w.heap.size, 0, none⟩) := hfr 2 (by kernel_rfl)
          simp [go_sem, ts, g0, g1, g2, g3, g4]
          exact ⟨Below.refl _ _, rfl⟩
        | 6, _ =>
          simp only [gTA, gCZ, gCS, gSI] at ho
          subst ho
          have ts : ρ (.tmp 2) = .pointer (some ⟨w.heap.size, 0, none⟩) := hfr 2 (by kernel_rfl)
          simp [go_sem, ts]
          exact ⟨Below.refl _ _, rfl⟩
        | 7, _ =>
          simp only [gTA, gCZ, gCS, gSI] at ho
          subst ho
          have ts : ρ (.tmp 30) = .pointer (some ⟨w.heap.size, 2, none⟩) := hdep 6 30 (by kernel_rfl) (by kernel_rfl)
          simp [go_sem, ts, g2]
          exact ⟨Below.refl _ _, rfl⟩
        | 8, _ =>
          simp only [gTA, gCZ, gCS, gSI] at ho
          subst ho
          have ts : ρ (.tmp 31) = .slice a2 g.edges.length c2 := hdep 7 31 (by kernel_rfl) (by kernel_rfl)
          simp [go_sem, ts]
          exact ⟨Below.refl _ _, rfl⟩
        | 9, _ =>
          simp only [gTA, gCZ, gCS, gSI] at ho
          subst ho
          have ts : ρ (.tmp 1) = .int .i64 (k : Int) := hfr 1 (by kernel_rfl)
          simp [go_sem, ts]
          exact ⟨Below.refl _ _, rfl⟩
        | 10, _ =>
          simp only [gTA, gCZ, gCS, gSI] at ho
          subst ho
          have ts : ρ (.tmp 6) = .pointer (some ⟨w.heap.size + 1, 0, none⟩) := hfr 6 (by kernel_rfl)
          simp [go_sem, ts]
          exact ⟨Below.refl _ _, rfl⟩
        | 11, _ =>
          simp only [gTA, gCZ, gCS, gSI] at ho
          subst ho
          have ts : ρ (.tmp 34) = .pointer (some ⟨w.heap.size + 1, 1, none⟩) := hdep 10 34 (by kernel_rfl) (by kernel_rfl)
          simp [go_sem, ts, b1]
          exact ⟨Below.refl _ _, rfl⟩
        | 12, _ =>
          simp only [gTA, gCZ, gCS, gSI] at ho
          subst ho
          have ts : ρ (.tmp 6) = .pointer (some ⟨w.heap.size + 1, 0, none⟩) := hfr 6 (by kernel_rfl)
          simp [go_sem, ts]
          exact ⟨Below.refl _ _, rfl⟩
        | 13, _ =>
          simp only [gTA, gCZ, gCS, gSI] at ho
          subst ho
          have ts : ρ (.tmp 36) = .pointer (some ⟨w.heap.size + 1, 2, none⟩) := hdep 12 36 (by kernel_rfl) (by kernel_rfl)
          simp [go_sem, ts, b2]
          exact ⟨Below.refl _ _, rfl⟩
        | 14, _ =>
          simp only [gTA, gCZ, gCS, gSI] at ho
          subst ho
          have t0 : ρ (.tmp 29) = .agg #[.string (str g.name), .slice a1 g.actors.length c1, .slice a2 g.edges.length c2, .slice (some ⟨b, off, none⟩) g.ins.length c3, .slice a4 g.outs.length c4] := hdep 5 29 (by kernel_rfl) (by kernel_rfl)
          have t1 : ρ (.tmp 32) = .int .i64 (g.edges.length : Int) := hdep 8 32 (by kernel_rfl) (by kernel_rfl)
          have t2 : ρ (.tmp 33) = .int .i64 (k : Int) := hdep 9 33 (by kernel_rfl) (by kernel_rfl)
          have t3 : ρ (.tmp 35) = .int .i64 ac := hdep 11 35 (by kernel_rfl) (by kernel_rfl)
          have t4 : ρ (.tmp 37) = .int .i64 po := hdep 13 37 (by kernel_rfl) (by kernel_rfl)
          simp [go_sem, t0, t1, t2, t3, t4, hf]
          exact ⟨rfl, (TKV.out w' hb).mono fun e w'' hh => ⟨_, hh.1, hh.2, rfl⟩⟩
        | 15, _ =>
          simp only [gTA, gCZ, gCS, gSI] at ho
          subst ho
          have t0 : ρ (.tmp 24) = .agg #[.string (str g.name), .slice a1 g.actors.length c1, .slice a2 g.edges.length c2, .slice (some ⟨b, off, none⟩) g.ins.length c3, .slice a4 g.outs.length c4] := hdep 0 24 (by kernel_rfl) (by kernel_rfl)
          have t1 : ρ (.tmp 26) = .int .i64 ac := hdep 2 26 (by kernel_rfl) (by kernel_rfl)
          have t2 : ρ (.tmp 28) = .int .i64 po := hdep 4 28 (by kernel_rfl) (by kernel_rfl)
          have t3 : ρ (.tmp 38) = .bool tk := hdep 14 38 (by kernel_rfl) (by kernel_rfl)
          simp [go_sem, t0, t1, t2, t3, hf, hc]
          exact ⟨rfl, (ENV.out w' hb).mono fun e w'' hh => ⟨_, hh.1, hh.2, rfl⟩⟩
        | k + 16, h => exact absurd h (by omega)
      · intro V9 w9 q9 hS
        have e0 : V9 0 = .agg #[.string (str g.name), .slice a1 g.actors.length c1, .slice a2 g.edges.length c2, .slice (some ⟨b, off, none⟩) g.ins.length c3, .slice a4 g.outs.length c4] := hS 0 (by decide)
        have e1 : V9 1 = .pointer (some ⟨w.heap.size + 1, 1, none⟩) := hS 1 (by decide)
        have e2 : V9 2 = .int .i64 ac := hS 2 (by decide)
        have e3 : V9 3 = .pointer (some ⟨w.heap.size + 1, 2, none⟩) := hS 3 (by decide)
        have e4 : V9 4 = .int .i64 po := hS 4 (by decide)
        have e5 : V9 5 = .agg #[.string (str g.name), .slice a1 g.actors.length c1, .slice a2 g.edges.length c2, .slice (some ⟨b, off, none⟩) g.ins.length c3, .slice a4 g.outs.length c4] := hS 5 (by decide)
        have e6 : V9 6 = .pointer (some ⟨w.heap.size, 2, none⟩) := hS 6 (by decide)
        have e7 : V9 7 = .slice a2 g.edges.length c2 := hS 7 (by decide)
        have e8 : V9 8 = .int .i64 (g.edges.length : Int) := hS 8 (by decide)
        have e9 : V9 9 = .int .i64 (k : Int) := hS 9 (by decide)
        have e10 : V9 10 = .pointer (some ⟨w.heap.size + 1, 1, none⟩) := hS 10 (by decide)
        have e11 : V9 11 = .int .i64 ac := hS 11 (by decide)
        have e12 : V9 12 = .pointer (some ⟨w.heap.size + 1, 2, none⟩) := hS 12 (by decide)
        have e13 : V9 13 = .int .i64 po := hS 13 (by decide)
        have e14 : V9 14 = .bool tk := hS 14 (by decide)
        have e15 : V9 15 = .int .i64 ev := hS 15 (by decide)
        simp only [List.drop_succ_cons, List.drop_zero, List.take_succ_cons, List.take_zero, puts, e0, e1, e2, e3, e4, e5, e6, e7, e8, e9, e10, e11, e12, e13, e14, e15]
        clear hS e0 e1 e2 e3 e4 e5 e6 e7 e8 e9 e10 e11 e12 e13 e14 e15 V9
        simp only [Act.put, List.setIfInBounds_toArray, List.set_cons_zero, List.set_cons_succ]
        have B8 := hiddenG (BW.out.trans (q9.mono BW.out.size))
        clear q9
        go_wp2
        refine bodyPost_ret (v := .tuple #[.int .i64 ev, .int .i64 2]) (by simp [results, Try.results52, go_sem]) rfl ?_
        exact ⟨by rw [HC.out]; rfl, B8.out⟩
    · go_wp2_with (first
        | (go_at_call 70; (with_reducible refine (NM.out _ BV.out).mono ?_); rintro e w2 ⟨rfl, b2⟩; have B2 := hiddenG b2; clear b2)
        | (go_at_call 48; (with_reducible refine (RN.out _).mono ?_); rintro e w' ⟨rfl, rfl⟩))
      refine bodyPost_ret (v := .tuple #[.int .i64 83, .int .i64 0]) (by simp [results, Try.results52, go_sem]) rfl ?_
      exact ⟨by rw [HC.out]; rfl, BV.out.trans (B2.out.mono BV.out.size)⟩
set_option maxRecDepth 100000 in
set_option maxHeartbeats 8000000 in
theorem out8_any (g : GG) (a1 a2 a3 a4 : Option Addr) (c1 c2 c3 c4 : Nat) (k : Nat) (w : World) (h : GrG w a1 a2 a3 a4 g) (hk : k < g.outs.length) :
    Calls Try.prog 53 #[.agg #[.string (str g.name), .slice a1 g.actors.length c1, .slice a2 g.edges.length c2, .slice a3 g.ins.length c3, .slice a4 g.outs.length c4], .int .i64 (k : Int)] w fun e w' => e = .returned (.tuple #[.int .i64 (outC g k).1, .int .i64 ((outC g k).2 : Int)]) ∧ Below w.heap.size w w' := by
  have hki : (k : Int) < (g.outs.length : Int) := by omega
  have n1 : (g.actors.length : Int) ≤ 1000000000000000 := by have := h.l1; omega
  have n2 : (g.edges.length : Int) ≤ 1000000000000000 := by have := h.l2; omega
  have n3 : (g.ins.length : Int) ≤ 1000000000000000 := by have := h.l3; omega
  have n4 : (g.outs.length : Int) ≤ 1000000000000000 := by have := h.l4; omega
  have ba := (Below.refl w.heap.size w).alloc (Nat.le_refl _) (.cells #[.string (str g.name), .slice a1 g.actors.length c1, .slice a2 g.edges.length c2, .slice a3 g.ins.length c3, .slice a4 g.outs.length c4] 31)
  have HG := hiddenG h
  have NM : Hid (∀ U, Below w.heap.size w U → Calls Try.prog 70 #[.agg #[.string (str g.name), .slice a1 g.actors.length c1, .slice a2 g.edges.length c2, .slice a3 g.ins.length c3, .slice a4 g.outs.length c4], .int .i64 (g.actors.length : Int), .int .i64 (g.ins.length : Int), .int .i64 (k : Int), .string (str (nthP g.outs k).name)] U fun e w' => e = .returned (.bool (namedB g g.actors.length g.ins.length k (nthP g.outs k).name)) ∧ Below U.heap.size U w') := fun U hb => named_any g a1 a2 a3 a4 c1 c2 c3 c4 g.actors.length g.ins.length k _ U (HG.out.below hb) (Nat.le_refl _) (Nat.le_refl _) (Nat.le_of_lt hk)
  have RN : Hid (∀ U, Calls Try.prog 48 #[.string (str (nthP g.outs k).name)] U fun e w' => e = .returned (.bool (nameB (nthP g.outs k).name)) ∧ U = w') := fun U => rname_any _ U
  have TK : Hid (∀ U, Below w.heap.size w U → Calls Try.prog 73 #[.agg #[.string (str g.name), .slice a1 g.actors.length c1, .slice a2 g.edges.length c2, .slice a3 g.ins.length c3, .slice a4 g.outs.length c4], .int .i64 (g.edges.length : Int), .int .i64 (k : Int), .int .i64 (nthP g.outs k).actor, .int .i64 (nthP g.outs k).port] U fun e w' => e = .returned (.bool (outTk g g.edges.length k (nthP g.outs k).actor (nthP g.outs k).port)) ∧ Below U.heap.size U w') := fun U hb => outTaken_any g a1 a2 a3 a4 c1 c2 c3 c4 g.edges.length k _ _ U (HG.out.below hb) (Nat.le_refl _) (Nat.le_of_lt hk)
  have EN : Hid (∀ U, Below w.heap.size w U → Calls Try.prog 72 #[.agg #[.string (str g.name), .slice a1 g.actors.length c1, .slice a2 g.edges.length c2, .slice a3 g.ins.length c3, .slice a4 g.outs.length c4], .int .i64 (nthP g.outs k).actor, .int .i64 (nthP g.outs k).port, .bool true, .bool (outTk g g.edges.length k (nthP g.outs k).actor (nthP g.outs k).port)] U fun e w' => e = .returned (.int .i64 (outEnd g g.edges.length k (nthP g.outs k).actor (nthP g.outs k).port)) ∧ Below U.heap.size U w') := fun U hb => end8_any g a1 a2 a3 a4 c1 c2 c3 c4 _ _ true _ U (HG.out.below hb)
  have HC : Hid (outC g k = if nameB (nthP g.outs k).name = false then (82, 0) else if namedB g g.actors.length g.ins.length k (nthP g.outs k).name = true then (83, 0) else (outEnd g g.edges.length k (nthP g.outs k).actor (nthP g.outs k).port, 1)) := by rfl
  have B0 := hiddenG (gbox_new w #[.string (str g.name), .slice a1 g.actors.length c1, .slice a2 g.edges.length c2, .slice a3 g.ins.length c3, .slice a4 g.outs.length c4])
  have y2 := B0.out.1.cell (k := 4) rfl
  obtain ⟨b, off, ha2, hc⟩ : ∃ b off, a4 = some ⟨b, off, none⟩ ∧ ∀ j, j < g.outs.length → _ := by
    rcases (h.below ba).O with e | q
    · rw [e] at hk; exact absurd hk (Nat.not_lt_zero _)
    · exact q
  obtain ⟨x0, x1, x2⟩ := hc k hk
  rw [ha2] at y2
  clear hc ba h
  generalize namedB g g.actors.length g.ins.length k (nthP g.outs k).name = q2 at *
  generalize outEnd g g.edges.length k (nthP g.outs k).actor (nthP g.outs k).port = ev at *
  generalize outTk g g.edges.length k (nthP g.outs k).actor (nthP g.outs k).port = tk at *
  generalize nthP g.outs k = E at *
  obtain ⟨en, ac, po⟩ := E
  simp only at x0 x1 x2 NM RN TK EN HC
  generalize nameB en = q1 at *
  have bv := B0.out.2.trans (((Below.refl (w.alloc (.cells #[.string (str g.name), .slice a1 g.actors.length c1, .slice a2 g.edges.length c2, .slice a3 g.ins.length c3, .slice a4 g.outs.length c4] 31)).heap.size (w.alloc (.cells #[.string (str g.name), .slice a1 g.actors.length c1, .slice a2 g.edges.length c2, .slice a3 g.ins.length c3, .slice a4 g.outs.length c4] 31))).alloc (Nat.le_refl _) (.cells #[.string (str en), .int .i64 ac, .int .i64 po] 83)).mono B0.out.2.size)
  have GB := hiddenG (B0.out.1.below ((Below.refl (w.alloc (.cells #[.string (str g.name), .slice a1 g.actors.length c1, .slice a2 g.edges.length c2, .slice a3 g.ins.length c3, .slice a4 g.outs.length c4] 31)).heap.size (w.alloc (.cells #[.string (str g.name), .slice a1 g.actors.length c1, .slice a2 g.edges.length c2, .slice a3 g.ins.length c3, .slice a4 g.outs.length c4] 31))).alloc (Nat.le_refl _) (.cells #[.string (str en), .int .i64 ac, .int .i64 po] 83)))
  have BX : Hid (BlkA 83 (w.heap.size + 1) ((w.alloc (.cells #[.string (str g.name), .slice a1 g.actors.length c1, .slice a2 g.edges.length c2, .slice a3 g.ins.length c3, .slice a4 g.outs.length c4] 31)).alloc (.cells #[.string (str en), .int .i64 ac, .int .i64 po] 83)) #[.string (str en), .int .i64 ac, .int .i64 po]) := by
    have q := blkA_new 83 (w.alloc (.cells #[.string (str g.name), .slice a1 g.actors.length c1, .slice a2 g.edges.length c2, .slice a3 g.ins.length c3, .slice a4 g.outs.length c4] 31)) #[.string (str en), .int .i64 ac, .int .i64 po]
    rw [World.size_alloc] at q
    exact q
  have BV := hiddenG bv
  clear bv
  subst ha2
  go_enter Try.func53, Try.ntmps53
  go_upto_region 2 with fail
  generalize (w.alloc (.cells #[.string (str g.name), .slice a1 g.actors.length c1, .slice a2 g.edges.length c2, .slice a3 g.ins.length c3, .slice (some ⟨b, off, none⟩) g.outs.length c4] 31)).alloc (.cells #[.string (str en), .int .i64 ac, .int .i64 po] 83) = V at *
  have gx0 : V.cell? ⟨w.heap.size, 0, none⟩ = some (.string (str g.name)) := (GB.out).cell rfl
  have gx1 : V.cell? ⟨w.heap.size, 1, none⟩ = some (.slice a1 g.actors.length c1) := (GB.out).cell rfl
  have gx2 : V.cell? ⟨w.heap.size, 2, none⟩ = some (.slice a2 g.edges.length c2) := (GB.out).cell rfl
  have gx3 : V.cell? ⟨w.heap.size, 3, none⟩ = some (.slice a3 g.ins.length c3) := (GB.out).cell rfl
  have gx4 : V.cell? ⟨w.heap.size, 4, none⟩ = some (.slice (some ⟨b, off, none⟩) g.outs.length c4) := (GB.out).cell rfl
  have bb0 := BX.out.cell (k := 0) rfl
  have bb1 := BX.out.cell (k := 1) rfl
  have bb2 := BX.out.cell (k := 2) rfl
  clear x0 x1 x2 y2
  cases q1
  · go_wp2_with (go_at_call 48; (with_reducible refine (RN.out _).mono ?_); rintro e w' ⟨rfl, rfl⟩)
    refine bodyPost_ret (v := .tuple #[.int .i64 82, .int .i64 0]) (by simp [results, Try.results53, go_sem]) rfl ?_
    exact ⟨by rw [HC.out]; rfl, BV.out⟩
  · cases q2
    · go_upto_region 6 with (first
        | (go_at_call 70; (with_reducible refine (NM.out _ BV.out).mono ?_); rintro e w2 ⟨rfl, b2⟩; have B2 := hiddenG b2; clear b2)
        | (go_at_call 48; (with_reducible refine (RN.out _).mono ?_); rintro e w' ⟨rfl, rfl⟩))
      have BW := hiddenG (BV.out.trans (B2.out.mono BV.out.size))
      have gy0 := cell_keep B2.out gx0
      have gy1 := cell_keep B2.out gx1
      have gy2 := cell_keep B2.out gx2
      have gy3 := cell_keep B2.out gx3
      have gy4 := cell_keep B2.out gx4
      have bc0 := cell_keep B2.out bb0
      have bc1 := cell_keep B2.out bb1
      have bc2 := cell_keep B2.out bb2
      have TKV : Hid (∀ U, Below w2.heap.size w2 U → Calls Try.prog 73 #[.agg #[.string (str g.name), .slice a1 g.actors.length c1, .slice a2 g.edges.length c2, .slice a3 g.ins.length c3, .slice (some ⟨b, off, none⟩) g.outs.length c4], .int .i64 (g.edges.length : Int), .int .i64 (k : Int), .int .i64 ac, .int .i64 po] U fun e w' => e = .returned (.bool tk) ∧ Below U.heap.size U w') := fun U hb => TK.out U (BW.out.trans (hb.mono BW.out.size))
      have ENV : Hid (∀ U, Below w2.heap.size w2 U → Calls Try.prog 72 #[.agg #[.string (str g.name), .slice a1 g.actors.length c1, .slice a2 g.edges.length c2, .slice a3 g.ins.length c3, .slice (some ⟨b, off, none⟩) g.outs.length c4], .int .i64 ac, .int .i64 po, .bool true, .bool tk] U fun e w' => e = .returned (.int .i64 ev) ∧ Below U.heap.size U w') := fun U hb => EN.out U (BW.out.trans (hb.mono BW.out.size))
      clear gx0 gx1 gx2 gx3 gx4 bb0 bb1 bb2
      refine wp_region_said 16 (fun i u v => match i with
          | 0 => v = .agg #[.string (str g.name), .slice a1 g.actors.length c1, .slice a2 g.edges.length c2, .slice a3 g.ins.length c3, .slice (some ⟨b, off, none⟩) g.outs.length c4]
          | 1 => v = .pointer (some ⟨w.heap.size + 1, 1, none⟩)
          | 2 => v = .int .i64 ac
          | 3 => v = .pointer (some ⟨w.heap.size + 1, 2, none⟩)
          | 4 => v = .int .i64 po
          | 5 => v = .agg #[.string (str g.name), .slice a1 g.actors.length c1, .slice a2 g.edges.length c2, .slice a3 g.ins.length c3, .slice (some ⟨b, off, none⟩) g.outs.length c4]
          | 6 => v = .pointer (some ⟨w.heap.size, 2, none⟩)
          | 7 => v = .slice a2 g.edges.length c2
          | 8 => v = .int .i64 (g.edges.length : Int)
          | 9 => v = .int .i64 (k : Int)
          | 10 => v = .pointer (some ⟨w.heap.size + 1, 1, none⟩)
          | 11 => v = .int .i64 ac
          | 12 => v = .pointer (some ⟨w.heap.size + 1, 2, none⟩)
          | 13 => v = .int .i64 po
          | 14 => v = .bool tk
          | 15 => v = .int .i64 ev
          | _ => True) (by kernel_rfl) (by kernel_rfl) (by kernel_rfl) (by kernel_rfl) ?_ ?_ ?_
      · intro i w v w' h hb
        match i, h with
        | 0, h => exact h
        | 1, h => exact h
        | 2, h => exact h
        | 3, h => exact h
        | 4, h => exact h
        | 5, h => exact h
        | 6, h => exact h
        | 7, h => exact h
        | 8, h => exact h
        | 9, h => exact h
        | 10, h => exact h
        | 11, h => exact h
        | 12, h => exact h
        | 13, h => exact h
        | 14, h => exact h
        | 15, h => exact h
        | _ + 16, _ => trivial
      · intro i o ρ w' hi ho hb hc hf hfr hdep
        have g0 := cell_keep hb gy0
        have g1 := cell_keep hb gy1
        have g2 := cell_keep hb gy2
        have g3 := cell_keep hb gy3
        have g4 := cell_keep hb gy4
        have b0 := cell_keep hb bc0
        have b1 := cell_keep hb bc1
        have b2 := cell_keep hb bc2
        match i, hi with
        | 0, _ =>
          simp only [gTA, gCZ, gSI] at ho
          subst ho
          have ts : ρ (.tmp 2) = .pointer (some ⟨w.heap.size, 0, none⟩) := hfr 2 (by kernel_rfl)
          simp [go_sem, ts, g0, g1, g2, g3, g4]
          exact ⟨Below.refl _ _, rfl⟩
        | 1, _ =>
          simp only [gTA, gCZ, gCS, gSI] at ho
          subst ho
          have ts : ρ (.tmp 6) = .pointer (some ⟨w.heap.size + 1, 0, none⟩) := hfr 6 (by kernel_rfl)
          simp [go_sem, ts]
          exact ⟨Below.refl _ _, rfl⟩
        | 2, _ =>
          simp only [gTA, gCZ, gCS, gSI] at ho
          subst ho
          have ts : ρ (.tmp 28) = .pointer (some ⟨w.heap.size + 1, 1, none⟩) := hdep 1 28 (by kernel_rfl) (by kernel_rfl)
          simp [go_sem, ts, b1]
          exact ⟨Below.refl _ _, rfl⟩
        | 3, _ =>
          simp only [gTA, gCZ, gCS, gSI] at ho
          subst ho
          have ts : ρ (.tmp 6) = .pointer (some ⟨w.heap.size + 1, 0, none⟩) := hfr 6 (by kernel_rfl)
          simp [go_sem, ts]
          exact ⟨Below.refl _ _, rfl⟩
        | 4, _ =>
          simp only [gTA, gCZ, gCS, gSI] at ho
          subst ho
          have ts : ρ (.tmp 30) = .pointer (some ⟨w.heap.size + 1, 2, none⟩) := hdep 3 30 (by kernel_rfl) (by kernel_rfl)
          simp [go_sem, ts, b2]
          exact ⟨Below.refl _ _, rfl⟩
        | 5, _ =>
          simp only [gTA, gCZ, gCS, gSI] at ho
          subst ho
          have ts : ρ (.tmp 2) = .pointer (some ⟨w.heap.size, 0, none⟩) := hfr 2 (by kernel_rfl)
          simp [go_sem, ts, g0, g1, g2, g3, g4]
          exact ⟨Below.refl _ _, rfl⟩
        | 6, _ =>
          simp only [gTA, gCZ, gCS, gSI] at ho
          subst ho
          have ts : ρ (.tmp 2) = .pointer (some ⟨w.heap.size, 0, none⟩) := hfr 2 (by kernel_rfl)
          simp [go_sem, ts]
          exact ⟨Below.refl _ _, rfl⟩
        | 7, _ =>
          simp only [gTA, gCZ, gCS, gSI] at ho
          subst ho
          have ts : ρ (.tmp 33) = .pointer (some ⟨w.heap.size, 2, none⟩) := hdep 6 33 (by kernel_rfl) (by kernel_rfl)
          simp [go_sem, ts, g2]
          exact ⟨Below.refl _ _, rfl⟩
        | 8, _ =>
          simp only [gTA, gCZ, gCS, gSI] at ho
          subst ho
          have ts : ρ (.tmp 34) = .slice a2 g.edges.length c2 := hdep 7 34 (by kernel_rfl) (by kernel_rfl)
          simp [go_sem, ts]
          exact ⟨Below.refl _ _, rfl⟩
        | 9, _ =>
          simp only [gTA, gCZ, gCS, gSI] at ho
          subst ho
          have ts : ρ (.tmp 1) = .int .i64 (k : Int) := hfr 1 (by kernel_rfl)
          simp [go_sem, ts]
          exact ⟨Below.refl _ _, rfl⟩
        | 10, _ =>
          simp only [gTA, gCZ, gCS, gSI] at ho
          subst ho
          have ts : ρ (.tmp 6) = .pointer (some ⟨w.heap.size + 1, 0, none⟩) := hfr 6 (by kernel_rfl)
          simp [go_sem, ts]
          exact ⟨Below.refl _ _, rfl⟩
        | 11, _ =>
          simp only [gTA, gCZ, gCS, gSI] at ho
          subst ho
          have ts : ρ (.tmp 37) = .pointer (some ⟨w.heap.size + 1, 1, none⟩) := hdep 10 37 (by kernel_rfl) (by kernel_rfl)
          simp [go_sem, ts, b1]
          exact ⟨Below.refl _ _, rfl⟩
        | 12, _ =>
          simp only [gTA, gCZ, gCS, gSI] at ho
          subst ho
          have ts : ρ (.tmp 6) = .pointer (some ⟨w.heap.size + 1, 0, none⟩) := hfr 6 (by kernel_rfl)
          simp [go_sem, ts]
          exact ⟨Below.refl _ _, rfl⟩
        | 13, _ =>
          simp only [gTA, gCZ, gCS, gSI] at ho
          subst ho
          have ts : ρ (.tmp 39) = .pointer (some ⟨w.heap.size + 1, 2, none⟩) := hdep 12 39 (by kernel_rfl) (by kernel_rfl)
          simp [go_sem, ts, b2]
          exact ⟨Below.refl _ _, rfl⟩
        | 14, _ =>
          simp only [gTA, gCZ, gCS, gSI] at ho
          subst ho
          have t0 : ρ (.tmp 32) = .agg #[.string (str g.name), .slice a1 g.actors.length c1, .slice a2 g.edges.length c2, .slice a3 g.ins.length c3, .slice (some ⟨b, off, none⟩) g.outs.length c4] := hdep 5 32 (by kernel_rfl) (by kernel_rfl)
          have t1 : ρ (.tmp 35) = .int .i64 (g.edges.length : Int) := hdep 8 35 (by kernel_rfl) (by kernel_rfl)
          have t2 : ρ (.tmp 36) = .int .i64 (k : Int) := hdep 9 36 (by kernel_rfl) (by kernel_rfl)
          have t3 : ρ (.tmp 38) = .int .i64 ac := hdep 11 38 (by kernel_rfl) (by kernel_rfl)
          have t4 : ρ (.tmp 40) = .int .i64 po := hdep 13 40 (by kernel_rfl) (by kernel_rfl)
          simp [go_sem, t0, t1, t2, t3, t4, hf]
          exact ⟨rfl, (TKV.out w' hb).mono fun e w'' hh => ⟨_, hh.1, hh.2, rfl⟩⟩
        | 15, _ =>
          simp only [gTA, gCZ, gCS, gSI] at ho
          subst ho
          have t0 : ρ (.tmp 27) = .agg #[.string (str g.name), .slice a1 g.actors.length c1, .slice a2 g.edges.length c2, .slice a3 g.ins.length c3, .slice (some ⟨b, off, none⟩) g.outs.length c4] := hdep 0 27 (by kernel_rfl) (by kernel_rfl)
          have t1 : ρ (.tmp 29) = .int .i64 ac := hdep 2 29 (by kernel_rfl) (by kernel_rfl)
          have t2 : ρ (.tmp 31) = .int .i64 po := hdep 4 31 (by kernel_rfl) (by kernel_rfl)
          have t3 : ρ (.tmp 41) = .bool tk := hdep 14 41 (by kernel_rfl) (by kernel_rfl)
          simp [go_sem, t0, t1, t2, t3, hf, hc]
          exact ⟨rfl, (ENV.out w' hb).mono fun e w'' hh => ⟨_, hh.1, hh.2, rfl⟩⟩
        | k + 16, h => exact absurd h (by omega)
      · intro V9 w9 q9 hS
        have e0 : V9 0 = .agg #[.string (str g.name), .slice a1 g.actors.length c1, .slice a2 g.edges.length c2, .slice a3 g.ins.length c3, .slice (some ⟨b, off, none⟩) g.outs.length c4] := hS 0 (by decide)
        have e1 : V9 1 = .pointer (some ⟨w.heap.size + 1, 1, none⟩) := hS 1 (by decide)
        have e2 : V9 2 = .int .i64 ac := hS 2 (by decide)
        have e3 : V9 3 = .pointer (some ⟨w.heap.size + 1, 2, none⟩) := hS 3 (by decide)
        have e4 : V9 4 = .int .i64 po := hS 4 (by decide)
        have e5 : V9 5 = .agg #[.string (str g.name), .slice a1 g.actors.length c1, .slice a2 g.edges.length c2, .slice a3 g.ins.length c3, .slice (some ⟨b, off, none⟩) g.outs.length c4] := hS 5 (by decide)
        have e6 : V9 6 = .pointer (some ⟨w.heap.size, 2, none⟩) := hS 6 (by decide)
        have e7 : V9 7 = .slice a2 g.edges.length c2 := hS 7 (by decide)
        have e8 : V9 8 = .int .i64 (g.edges.length : Int) := hS 8 (by decide)
        have e9 : V9 9 = .int .i64 (k : Int) := hS 9 (by decide)
        have e10 : V9 10 = .pointer (some ⟨w.heap.size + 1, 1, none⟩) := hS 10 (by decide)
        have e11 : V9 11 = .int .i64 ac := hS 11 (by decide)
        have e12 : V9 12 = .pointer (some ⟨w.heap.size + 1, 2, none⟩) := hS 12 (by decide)
        have e13 : V9 13 = .int .i64 po := hS 13 (by decide)
        have e14 : V9 14 = .bool tk := hS 14 (by decide)
        have e15 : V9 15 = .int .i64 ev := hS 15 (by decide)
        simp only [List.drop_succ_cons, List.drop_zero, List.take_succ_cons, List.take_zero, puts, e0, e1, e2, e3, e4, e5, e6, e7, e8, e9, e10, e11, e12, e13, e14, e15]
        clear hS e0 e1 e2 e3 e4 e5 e6 e7 e8 e9 e10 e11 e12 e13 e14 e15 V9
        simp only [Act.put, List.setIfInBounds_toArray, List.set_cons_zero, List.set_cons_succ]
        have B8 := hiddenG (BW.out.trans (q9.mono BW.out.size))
        clear q9
        go_wp2
        refine bodyPost_ret (v := .tuple #[.int .i64 ev, .int .i64 1]) (by simp [results, Try.results53, go_sem]) rfl ?_
        exact ⟨by rw [HC.out]; rfl, B8.out⟩
    · go_wp2_with (first
        | (go_at_call 70; (with_reducible refine (NM.out _ BV.out).mono ?_); rintro e w2 ⟨rfl, b2⟩; have B2 := hiddenG b2; clear b2)
        | (go_at_call 48; (with_reducible refine (RN.out _).mono ?_); rintro e w' ⟨rfl, rfl⟩))
      refine bodyPost_ret (v := .tuple #[.int .i64 83, .int .i64 0]) (by simp [results, Try.results53, go_sem]) rfl ?_
      exact ⟨by rw [HC.out]; rfl, BV.out.trans (B2.out.mono BV.out.size)⟩
theorem GBox.low {w u : World} {gv : Array Value} (h : GBox w gv u) : Below w.heap.size w u := h.2
theorem GBox.later {w u u' : World} {gv : Array Value} (h : GBox w gv u) (hb : Below u.heap.size u u') : GBox w gv u' := ⟨h.1.below hb, h.2.trans (hb.mono h.2.size)⟩
theorem range_yes {n k : Nat} {P : Nat → Bool} (hk : k < n) (h : P k = false) : (List.range n).any (fun p => !P p) = true := List.any_eq_true.2 ⟨k, List.mem_range.2 hk, by rw [h]; rfl⟩
theorem range_no {n : Nat} {P : Nat → Bool} (h : ∀ j, j < n → P j = true) : (List.range n).any (fun p => !P p) = false := List.any_eq_false.2 fun p hp => by rw [h p (List.mem_range.1 hp)]; decide
set_option maxRecDepth 100000 in
set_option maxHeartbeats 8000000 in
theorem open8_any (g : GG) (a1 a2 a3 a4 : Option Addr) (c1 c2 c3 c4 : Nat) (i : Nat) (w : World) (h : GrG w a1 a2 a3 a4 g) (hi : i < g.actors.length) :
    Calls Try.prog 54 #[.agg #[.string (str g.name), .slice a1 g.actors.length c1, .slice a2 g.edges.length c2, .slice a3 g.ins.length c3, .slice a4 g.outs.length c4], .int .i64 (i : Int)] w fun e w' => e = .returned (.bool (openB g i)) ∧ Below w.heap.size w w' := by
  have HG := hiddenG h
  have n2 : (g.edges.length : Int) ≤ 1000000000000000 := by have := h.l2; omega
  have n3 : (g.ins.length : Int) ≤ 1000000000000000 := by have := h.l3; omega
  have n4 : (g.outs.length : Int) ≤ 1000000000000000 := by have := h.l4; omega
  have s1 : insN g i ≤ 1024 := (of_small _ _).1
  have s2 : outsN g i ≤ 1024 := (of_small _ _).2
  have RT : Hid (∀ U, Below w.heap.size w U → Calls Try.prog 75 #[.agg #[.string (str g.name), .slice a1 g.actors.length c1, .slice a2 g.edges.length c2, .slice a3 g.ins.length c3, .slice a4 g.outs.length c4], .int .i64 (i : Int)] U fun e w' => e = .returned (.tuple #[.int .i64 (insN g i : Int), .int .i64 (outsN g i : Int)]) ∧ Below U.heap.size U w') := fun U hb => rates8_any g a1 a2 a3 a4 c1 c2 c3 c4 i U (HG.out.below hb) hi
  have IT : Hid (∀ U (p : Int), Below w.heap.size w U → Calls Try.prog 74 #[.agg #[.string (str g.name), .slice a1 g.actors.length c1, .slice a2 g.edges.length c2, .slice a3 g.ins.length c3, .slice a4 g.outs.length c4], .int .i64 (g.edges.length : Int), .int .i64 (g.ins.length : Int), .int .i64 (i : Int), .int .i64 p] U fun e w' => e = .returned (.bool (inTk g g.edges.length g.ins.length (i : Int) p)) ∧ Below U.heap.size U w') := fun U p hb => inTaken_any g a1 a2 a3 a4 c1 c2 c3 c4 _ _ _ _ U (HG.out.below hb) (Nat.le_refl _) (Nat.le_refl _)
  have OT : Hid (∀ U (p : Int), Below w.heap.size w U → Calls Try.prog 73 #[.agg #[.string (str g.name), .slice a1 g.actors.length c1, .slice a2 g.edges.length c2, .slice a3 g.ins.length c3, .slice a4 g.outs.length c4], .int .i64 (g.edges.length : Int), .int .i64 (g.outs.length : Int), .int .i64 (i : Int), .int .i64 p] U fun e w' => e = .returned (.bool (outTk g g.edges.length g.outs.length (i : Int) p)) ∧ Below U.heap.size U w') := fun U p hb => outTaken_any g a1 a2 a3 a4 c1 c2 c3 c4 _ _ _ _ U (HG.out.below hb) (Nat.le_refl _) (Nat.le_refl _)
  have HO : Hid (openB g i = ((List.range (insN g i)).any (fun p => !inTk g g.edges.length g.ins.length (i : Int) (p : Int)) || (List.range (outsN g i)).any (fun p => !outTk g g.edges.length g.outs.length (i : Int) (p : Int)))) := by rfl
  have B0 := hiddenG (gbox_new w #[.string (str g.name), .slice a1 g.actors.length c1, .slice a2 g.edges.length c2, .slice a3 g.ins.length c3, .slice a4 g.outs.length c4])
  clear h hi HG
  generalize insN g i = nI at *
  generalize outsN g i = nO at *
  generalize inTk g g.edges.length g.ins.length (i : Int) = FI at *
  generalize outTk g g.edges.length g.outs.length (i : Int) = FO at *
  go_enter Try.func54, Try.ntmps54
  go_upto_region 1 with fail
  generalize w.alloc (.cells #[.string (str g.name), .slice a1 g.actors.length c1, .slice a2 g.edges.length c2, .slice a3 g.ins.length c3, .slice a4 g.outs.length c4] 31) = W0 at *
  have g0 : W0.cell? ⟨w.heap.size, 0, none⟩ = some (.string (str g.name)) := B0.out.1.cell rfl
  have g1 : W0.cell? ⟨w.heap.size, 1, none⟩ = some (.slice a1 g.actors.length c1) := B0.out.1.cell rfl
  have g2 : W0.cell? ⟨w.heap.size, 2, none⟩ = some (.slice a2 g.edges.length c2) := B0.out.1.cell rfl
  have g3 : W0.cell? ⟨w.heap.size, 3, none⟩ = some (.slice a3 g.ins.length c3) := B0.out.1.cell rfl
  have g4 : W0.cell? ⟨w.heap.size, 4, none⟩ = some (.slice a4 g.outs.length c4) := B0.out.1.cell rfl
  go_wp2_with (go_at_call 75; (with_reducible refine (RT.out _ B0.out.low).mono ?_); rintro e w2 ⟨rfl, b2⟩; have B2 := hiddenG (B0.out.later b2); clear b2)
  clear g0 g1 g2 g3 g4 RT
  go_loopg [7] nI (fun gk v wr => ∃ k : Nat, k ≤ nI ∧ gk = nI - k ∧ v = .int .i64 (k : Int) ∧ GBox w #[.string (str g.name), .slice a1 g.actors.length c1, .slice a2 g.edges.length c2, .slice a3 g.ins.length c3, .slice a4 g.outs.length c4] wr ∧ ∀ j : Nat, j < k → FI (j : Int) = true)
  case atStart => exact ⟨0, Nat.zero_le _, rfl, rfl, B2.out, fun j hj => absurd hj (Nat.not_lt_zero _)⟩
  case round =>
    clear B2 B0
    obtain ⟨k, hk, rfl, rfl, hB, hall⟩ := hrel
    have HB := hiddenG hB
    have HAL := hiddenG hall
    have g0 : wr.cell? ⟨w.heap.size, 0, none⟩ = some (.string (str g.name)) := hB.1.cell rfl
    have g1 : wr.cell? ⟨w.heap.size, 1, none⟩ = some (.slice a1 g.actors.length c1) := hB.1.cell rfl
    have g2 : wr.cell? ⟨w.heap.size, 2, none⟩ = some (.slice a2 g.edges.length c2) := hB.1.cell rfl
    have g3 : wr.cell? ⟨w.heap.size, 3, none⟩ = some (.slice a3 g.ins.length c3) := hB.1.cell rfl
    have g4 : wr.cell? ⟨w.heap.size, 4, none⟩ = some (.slice a4 g.outs.length c4) := hB.1.cell rfl
    clear hB hall
    by_cases hlt : k < nI
    · have hki : (k : Int) < (nI : Int) := by omega
      have HYES : Hid (FI (k : Int) = false → openB g i = true) := fun e => by rw [HO.out, range_yes (P := fun p : Nat => FI (p : Int)) hlt e, Bool.true_or]
      have HNO : Hid (FI (k : Int) = true → ∀ j : Nat, j < k + 1 → FI (j : Int) = true) := fun e j hj => by
        by_cases q : j < k
        · exact HAL.out j q
        · rw [show j = k by omega]; exact e
      have CK := hiddenG (IT.out wr (k : Int) HB.out.2)
      obtain ⟨q1, hq1⟩ : ∃ q, FI (k : Int) = q := ⟨_, rfl⟩
      rw [hq1] at HYES HNO CK
      clear hq1
      cases q1
      · go_wp2_with (go_at_call 74; (with_reducible refine CK.out.mono ?_); rintro e w3 ⟨rfl, b3⟩; have B3 := hiddenG (HB.out.later b3); clear b3)
        go_ret
        exact ⟨by rw [HYES.out (by trivial)]; rfl, B3.out.2⟩
      · go_wp2_with (go_at_call 74; (with_reducible refine CK.out.mono ?_); rintro e w3 ⟨rfl, b3⟩; have B3 := hiddenG (HB.out.later b3); clear b3)
        go_roundg (nI - (k + 1))
        case measure => omega
        case rel => exact ⟨k + 1, by omega, rfl, by go_num, B3.out, HNO.out (by trivial)⟩
    · have hki : ¬ (k : Int) < (nI : Int) := by omega
      have Z0 : Hid ((List.range nI).any (fun p => !FI (p : Int)) = false) := range_no (P := fun p : Nat => FI (p : Int)) (fun j hj => HAL.out j (by omega))
      clear g0 g1 g2 g3 g4 HAL hlt hk
      go_wp2
      go_loopg [8] nO (fun gk v wr => ∃ k : Nat, k ≤ nO ∧ gk = nO - k ∧ v = .int .i64 (k : Int) ∧ GBox w #[.string (str g.name), .slice a1 g.actors.length c1, .slice a2 g.edges.length c2, .slice a3 g.ins.length c3, .slice a4 g.outs.length c4] wr ∧ ∀ j : Nat, j < k → FO (j : Int) = true)
      case atStart => exact ⟨0, Nat.zero_le _, rfl, rfl, HB.out, fun j hj => absurd hj (Nat.not_lt_zero _)⟩
      case round =>
        clear HB hki
        obtain ⟨k, hk, rfl, rfl, hB, hall⟩ := hrel
        have HB := hiddenG hB
        have HAL := hiddenG hall
        have g0 : wr.cell? ⟨w.heap.size, 0, none⟩ = some (.string (str g.name)) := hB.1.cell rfl
        have g1 : wr.cell? ⟨w.heap.size, 1, none⟩ = some (.slice a1 g.actors.length c1) := hB.1.cell rfl
        have g2 : wr.cell? ⟨w.heap.size, 2, none⟩ = some (.slice a2 g.edges.length c2) := hB.1.cell rfl
        have g3 : wr.cell? ⟨w.heap.size, 3, none⟩ = some (.slice a3 g.ins.length c3) := hB.1.cell rfl
        have g4 : wr.cell? ⟨w.heap.size, 4, none⟩ = some (.slice a4 g.outs.length c4) := hB.1.cell rfl
        clear hB hall
        by_cases hlt : k < nO
        · have hki : (k : Int) < (nO : Int) := by omega
          have HYES : Hid (FO (k : Int) = false → openB g i = true) := fun e => by rw [HO.out, Z0.out, range_yes (P := fun p : Nat => FO (p : Int)) hlt e, Bool.false_or]
          have HNO : Hid (FO (k : Int) = true → ∀ j : Nat, j < k + 1 → FO (j : Int) = true) := fun e j hj => by
            by_cases q : j < k
            · exact HAL.out j q
            · rw [show j = k by omega]; exact e
          have CK := hiddenG (OT.out wr (k : Int) HB.out.2)
          obtain ⟨q1, hq1⟩ : ∃ q, FO (k : Int) = q := ⟨_, rfl⟩
          rw [hq1] at HYES HNO CK
          clear hq1
          cases q1
          · go_wp2_with (go_at_call 73; (with_reducible refine CK.out.mono ?_); rintro e w3 ⟨rfl, b3⟩; have B3 := hiddenG (HB.out.later b3); clear b3)
            go_ret
            exact ⟨by rw [HYES.out (by trivial)]; rfl, B3.out.2⟩
          · go_wp2_with (go_at_call 73; (with_reducible refine CK.out.mono ?_); rintro e w3 ⟨rfl, b3⟩; have B3 := hiddenG (HB.out.later b3); clear b3)
            go_roundg (nO - (k + 1))
            case measure => omega
            case rel => exact ⟨k + 1, by omega, rfl, by go_num, B3.out, HNO.out (by trivial)⟩
        · have hki : ¬ (k : Int) < (nO : Int) := by omega
          have Z1 : Hid ((List.range nO).any (fun p => !FO (p : Int)) = false) := range_no (P := fun p : Nat => FO (p : Int)) (fun j hj => HAL.out j (by omega))
          have HP0 : Hid (openB g i = false) := by show _ = _; rw [HO.out, Z0.out, Z1.out]; rfl
          go_wp2
          go_ret
          exact ⟨by rw [HP0.out]; rfl, HB.out.2⟩
theorem sizX : (Try.prog.info? 57).map (·.size) = some 4 := by kernel_rfl
/-- What is wrong, and where, as the document's value. -/
def wV (f : FL) : Value := .agg #[.int .i64 f.code, .int .u8 (f.kind : Int), .int .i64 (f.number : Int), .int .i64 (f.stop : Int)]
def manyF (g : GG) : FL :=
  if 32 < g.actors.length then ⟨81, 1, 32, 0⟩ else if 96 < g.edges.length then ⟨81, 2, 96, 0⟩ else if 16 < g.ins.length then ⟨81, 3, 16, 0⟩ else if 16 < g.outs.length then ⟨81, 4, 16, 0⟩ else fl0
set_option maxRecDepth 100000 in
set_option maxHeartbeats 4000000 in
theorem many8_any (g : GG) (a1 a2 a3 a4 : Option Addr) (c1 c2 c3 c4 : Nat) (w : World) (l1 : g.actors.length ≤ 1000000000000000) (l2 : g.edges.length ≤ 1000000000000000) (l3 : g.ins.length ≤ 1000000000000000) (l4 : g.outs.length ≤ 1000000000000000) :
    Calls Try.prog 49 #[.agg #[.string (str g.name), .slice a1 g.actors.length c1, .slice a2 g.edges.length c2, .slice a3 g.ins.length c3, .slice a4 g.outs.length c4]] w fun e w' => e = .returned (wV (manyF g)) ∧ Below w.heap.size w w' := by
  have ba := ((Below.refl w.heap.size w).alloc (Nat.le_refl _) (.cells #[.string (str g.name), .slice a1 g.actors.length c1, .slice a2 g.edges.length c2, .slice a3 g.ins.length c3, .slice a4 g.outs.length c4] 31)).alloc (by simp) (.cells #[.int .i64 0, .int .u8 0, .int .i64 0, .int .i64 0] 57)
  have BA := hiddenG ba
  have gg := (blkA_new 31 w #[.string (str g.name), .slice a1 g.actors.length c1, .slice a2 g.edges.length c2, .slice a3 g.ins.length c3, .slice a4 g.outs.length c4]).below ((Below.refl _ _).alloc (Nat.le_refl _) (.cells #[.int .i64 0, .int .u8 0, .int .i64 0, .int .i64 0] 57))
  have nr : BlkA 57 (w.heap.size + 1) ((w.alloc (.cells #[.string (str g.name), .slice a1 g.actors.length c1, .slice a2 g.edges.length c2, .slice a3 g.ins.length c3, .slice a4 g.outs.length c4] 31)).alloc (.cells #[.int .i64 0, .int .u8 0, .int .i64 0, .int .i64 0] 57)) #[.int .i64 0, .int .u8 0, .int .i64 0, .int .i64 0] := by
    have h3 := blkA_new 57 (w.alloc (.cells #[.string (str g.name), .slice a1 g.actors.length c1, .slice a2 g.edges.length c2, .slice a3 g.ins.length c3, .slice a4 g.outs.length c4] 31)) #[.int .i64 0, .int .u8 0, .int .i64 0, .int .i64 0]
    rw [World.size_alloc] at h3
    exact h3
  have NR := hiddenG nr
  have x1 := gg.cell (k := 1) rfl
  have x2 := gg.cell (k := 2) rfl
  have x3 := gg.cell (k := 3) rfl
  have x4 := gg.cell (k := 4) rfl
  have HD : Hid (manyF g = if 32 < g.actors.length then ⟨81, 1, 32, 0⟩ else if 96 < g.edges.length then ⟨81, 2, 96, 0⟩ else if 16 < g.ins.length then ⟨81, 3, 16, 0⟩ else if 16 < g.outs.length then ⟨81, 4, 16, 0⟩ else fl0) := by rfl
  clear ba gg nr
  generalize g.actors.length = n1 at *
  generalize g.edges.length = n2 at *
  generalize g.ins.length = n3 at *
  generalize g.outs.length = n4 at *
  by_cases k0 : 32 < n1
  · have i0 : (n1 : Int) > 32 := by omega
    go_enter Try.func49, Try.ntmps49
    go_upto_region 1 with fail
    generalize (w.alloc (.cells #[.string (str g.name), .slice a1 n1 c1, .slice a2 n2 c2, .slice a3 n3 c3, .slice a4 n4 c4] 31)).alloc (.cells #[.int .i64 0, .int .u8 0, .int .i64 0, .int .i64 0] 57) = W0 at *
    go_wp2_with (refine wpList_storeW _ rfl 57 (.tmp 2) (.tmp 7) rfl rfl (w.heap.size + 1) 57 _ _ rfl rfl NR.out sizX rfl rfl ?_; intro w9 hN hU; have N9 := hiddenG hN; have U9 := hiddenG hU; clear hN hU)
    have z0 : w9.cell? ⟨w.heap.size + 1, 0, none⟩ = some (.int .i64 81) := N9.out.cell rfl
    have z1 : w9.cell? ⟨w.heap.size + 1, 1, none⟩ = some (.int .u8 1) := N9.out.cell rfl
    have z2 : w9.cell? ⟨w.heap.size + 1, 2, none⟩ = some (.int .i64 32) := N9.out.cell rfl
    have z3 : w9.cell? ⟨w.heap.size + 1, 3, none⟩ = some (.int .i64 0) := N9.out.cell rfl
    refine bodyPost_ret (v := .agg #[.int .i64 81, .int .u8 1, .int .i64 32, .int .i64 0]) (by simp [results, Try.results49, go_sem, z0, z1, z2, z3]) rfl ?_
    exact ⟨by rw [HD.out, if_pos k0]; rfl, BA.out.trans (U9.out.below (Nat.le_succ _) BA.out.size)⟩
  · have i0 : ¬ (n1 : Int) > 32 := by omega
    by_cases k1 : 96 < n2
    · have i1 : (n2 : Int) > 96 := by omega
      go_enter Try.func49, Try.ntmps49
      go_upto_region 1 with fail
      generalize (w.alloc (.cells #[.string (str g.name), .slice a1 n1 c1, .slice a2 n2 c2, .slice a3 n3 c3, .slice a4 n4 c4] 31)).alloc (.cells #[.int .i64 0, .int .u8 0, .int .i64 0, .int .i64 0] 57) = W0 at *
      go_wp2_with (refine wpList_storeW _ rfl 57 (.tmp 2) (.tmp 12) rfl rfl (w.heap.size + 1) 57 _ _ rfl rfl NR.out sizX rfl rfl ?_; intro w9 hN hU; have N9 := hiddenG hN; have U9 := hiddenG hU; clear hN hU)
      have z0 : w9.cell? ⟨w.heap.size + 1, 0, none⟩ = some (.int .i64 81) := N9.out.cell rfl
      have z1 : w9.cell? ⟨w.heap.size + 1, 1, none⟩ = some (.int .u8 2) := N9.out.cell rfl
      have z2 : w9.cell? ⟨w.heap.size + 1, 2, none⟩ = some (.int .i64 96) := N9.out.cell rfl
      have z3 : w9.cell? ⟨w.heap.size + 1, 3, none⟩ = some (.int .i64 0) := N9.out.cell rfl
      refine bodyPost_ret (v := .agg #[.int .i64 81, .int .u8 2, .int .i64 96, .int .i64 0]) (by simp [results, Try.results49, go_sem, z0, z1, z2, z3]) rfl ?_
      exact ⟨by rw [HD.out, if_neg k0, if_pos k1]; rfl, BA.out.trans (U9.out.below (Nat.le_succ _) BA.out.size)⟩
    · have i1 : ¬ (n2 : Int) > 96 := by omega
      by_cases k2 : 16 < n3
      · have i2 : (n3 : Int) > 16 := by omega
        go_enter Try.func49, Try.ntmps49
        go_upto_region 1 with fail
        generalize (w.alloc (.cells #[.string (str g.name), .slice a1 n1 c1, .slice a2 n2 c2, .slice a3 n3 c3, .slice a4 n4 c4] 31)).alloc (.cells #[.int .i64 0, .int .u8 0, .int .i64 0, .int .i64 0] 57) = W0 at *
        go_wp2_with (refine wpList_storeW _ rfl 57 (.tmp 2) (.tmp 17) rfl rfl (w.heap.size + 1) 57 _ _ rfl rfl NR.out sizX rfl rfl ?_; intro w9 hN hU; have N9 := hiddenG hN; have U9 := hiddenG hU; clear hN hU)
        have z0 : w9.cell? ⟨w.heap.size + 1, 0, none⟩ = some (.int .i64 81) := N9.out.cell rfl
        have z1 : w9.cell? ⟨w.heap.size + 1, 1, none⟩ = some (.int .u8 3) := N9.out.cell rfl
        have z2 : w9.cell? ⟨w.heap.size + 1, 2, none⟩ = some (.int .i64 16) := N9.out.cell rfl
        have z3 : w9.cell? ⟨w.heap.size + 1, 3, none⟩ = some (.int .i64 0) := N9.out.cell rfl
        refine bodyPost_ret (v := .agg #[.int .i64 81, .int .u8 3, .int .i64 16, .int .i64 0]) (by simp [results, Try.results49, go_sem, z0, z1, z2, z3]) rfl ?_
        exact ⟨by rw [HD.out, if_neg k0, if_neg k1, if_pos k2]; rfl, BA.out.trans (U9.out.below (Nat.le_succ _) BA.out.size)⟩
      · have i2 : ¬ (n3 : Int) > 16 := by omega
        by_cases k3 : 16 < n4
        · have i3 : (n4 : Int) > 16 := by omega
          go_enter Try.func49, Try.ntmps49
          go_upto_region 1 with fail
          generalize (w.alloc (.cells #[.string (str g.name), .slice a1 n1 c1, .slice a2 n2 c2, .slice a3 n3 c3, .slice a4 n4 c4] 31)).alloc (.cells #[.int .i64 0, .int .u8 0, .int .i64 0, .int .i64 0] 57) = W0 at *
          go_wp2_with (refine wpList_storeW _ rfl 57 (.tmp 2) (.tmp 22) rfl rfl (w.heap.size + 1) 57 _ _ rfl rfl NR.out sizX rfl rfl ?_; intro w9 hN hU; have N9 := hiddenG hN; have U9 := hiddenG hU; clear hN hU)
          have z0 : w9.cell? ⟨w.heap.size + 1, 0, none⟩ = some (.int .i64 81) := N9.out.cell rfl
          have z1 : w9.cell? ⟨w.heap.size + 1, 1, none⟩ = some (.int .u8 4) := N9.out.cell rfl
          have z2 : w9.cell? ⟨w.heap.size + 1, 2, none⟩ = some (.int .i64 16) := N9.out.cell rfl
          have z3 : w9.cell? ⟨w.heap.size + 1, 3, none⟩ = some (.int .i64 0) := N9.out.cell rfl
          refine bodyPost_ret (v := .agg #[.int .i64 81, .int .u8 4, .int .i64 16, .int .i64 0]) (by simp [results, Try.results49, go_sem, z0, z1, z2, z3]) rfl ?_
          exact ⟨by rw [HD.out, if_neg k0, if_neg k1, if_neg k2, if_pos k3]; rfl, BA.out.trans (U9.out.below (Nat.le_succ _) BA.out.size)⟩
        · have i3 : ¬ (n4 : Int) > 16 := by omega
          go_enter Try.func49, Try.ntmps49
          go_upto_region 1 with fail
          generalize (w.alloc (.cells #[.string (str g.name), .slice a1 n1 c1, .slice a2 n2 c2, .slice a3 n3 c3, .slice a4 n4 c4] 31)).alloc (.cells #[.int .i64 0, .int .u8 0, .int .i64 0, .int .i64 0] 57) = W0 at *
          go_wp2_with (refine wpList_storeW _ rfl 57 (.tmp 2) (.tmp 23) rfl rfl (w.heap.size + 1) 57 _ _ rfl rfl NR.out sizX rfl rfl ?_; intro w9 hN hU; have N9 := hiddenG hN; have U9 := hiddenG hU; clear hN hU)
          have z0 : w9.cell? ⟨w.heap.size + 1, 0, none⟩ = some (.int .i64 0) := N9.out.cell rfl
          have z1 : w9.cell? ⟨w.heap.size + 1, 1, none⟩ = some (.int .u8 0) := N9.out.cell rfl
          have z2 : w9.cell? ⟨w.heap.size + 1, 2, none⟩ = some (.int .i64 0) := N9.out.cell rfl
          have z3 : w9.cell? ⟨w.heap.size + 1, 3, none⟩ = some (.int .i64 0) := N9.out.cell rfl
          refine bodyPost_ret (v := .agg #[.int .i64 0, .int .u8 0, .int .i64 0, .int .i64 0]) (by simp [results, Try.results49, go_sem, z0, z1, z2, z3]) rfl ?_
          exact ⟨by rw [HD.out, if_neg k0, if_neg k1, if_neg k2, if_neg k3]; rfl, BA.out.trans (U9.out.below (Nat.le_succ _) BA.out.size)⟩
/-- A graph's box and the row in its field f, while that row is filled; w0: the world ahead of it. -/
structure FilS (S : TypeId) (w0 wr : World) (hb : Nat) (T : TypeId) (c : Nat) (cs : Array Value) (v : Value) (n : Nat) (xs : List Value) : Prop where
  blk : BlkA S hb wr cs
  row : wr.ownsRow w0.heap.size T c v n xs
  old : hb < w0.heap.size
  chg : Chg (fun k => k = hb ∨ w0.heap.size ≤ k) w0 wr
theorem FilS.far {S : TypeId} {w0 wr : World} {hb : Nat} {T : TypeId} {c : Nat} {cs : Array Value} {v : Value} {n : Nat} {xs : List Value} (h : FilS S w0 wr hb T c cs v n xs) : v.ownBlock ≠ some hb := fun e => by
  have := own_row h.row _ e
  have := h.old
  omega
theorem FilS.nil {S : TypeId} {w0 : World} {hb : Nat} (T : TypeId) (c : Nat) {cs : Array Value} (h : BlkA S hb w0 cs) : FilS S w0 w0 hb T c cs (.slice none 0 0) 0 [] :=
  ⟨h, World.ownsRow_nil _ _ _ _, h.lt, Chg.of_below (Below.refl _ _)⟩
theorem FilS.step {S : TypeId} {w0 V u : World} {hb : Nat} {T : TypeId} {c f : Nat} {cs : Array Value} {v : Value} {n : Nat} {xs e : List Value} (h : FilS S w0 V hb T c cs v n xs) (ap : AppE (fun _ es => es = e) V w0.heap.size T c v n xs S hb f cs u) : ∃ g k, FilS S w0 u hb T c (cs.setIfInBounds f (.slice (some ⟨g, 0, none⟩) (n + 1) k)) (.slice (some ⟨g, 0, none⟩) (n + 1) k) (n + 1) (xs ++ e) := by
  obtain ⟨es, w1, u1, z, hD, hbut, hblk⟩ := ap
  obtain ⟨g, cap, rfl⟩ := hD.shape
  have e1 : es = e := hD.el
  subst e1
  have hgB : w0.heap.size ≤ g := own_row hD.own g rfl
  have hold := h.old
  refine ⟨g, cap, hblk, ownR_keep hD.own (fun k hk => hbut.block k (own_lt hD.own k hk) (by have := own_row hD.own k hk; omega)), h.old, ?_⟩
  have c1 := h.chg.trans hD.chg (fun k hk => .inr (own_row h.row k hk))
  exact c1.trans (F' := fun k => k = hb) ⟨hbut.os, hbut.tape, hbut.output, hbut.size, fun k hk hn => hbut.block k hk hn⟩ (fun k hk => .inl (.inl hk))
theorem FilS.bel {S : TypeId} {w0 wr : World} {hb : Nat} {T : TypeId} {c : Nat} {cs : Array Value} {v : Value} {n : Nat} {xs : List Value} (h : FilS S w0 wr hb T c cs v n xs) {Q : Nat} (hQ : Q ≤ hb) : Below Q w0 wr := by
  have := h.old
  exact ⟨h.chg.os, h.chg.tape, h.chg.output, h.chg.size, fun k hk => h.chg.block k (by omega) (by omega)⟩
theorem FilS.keep {S : TypeId} {w0 wr : World} {hb : Nat} {T : TypeId} {c : Nat} {cs : Array Value} {v : Value} {n : Nat} {xs : List Value} (h : FilS S w0 wr hb T c cs v n xs) : ∀ k, k < w0.heap.size → k ≠ hb → wr.heap[k]? = w0.heap[k]? := fun k hk hn => h.chg.block k hk (by omega)
/-- The blocks of a small graph, its second actor's name and its edges aside. -/
structure SmX (b : Nat) (nm : ByteArray) (w : World) : Prop where
  i2 : BlkA 3 (b + 1) w #[.int .i64 2]
  ac : BlkA 61 (b + 2) w #[.string ⟨#[97]⟩, .int .u8 2, .slice (some ⟨b + 1, 0, none⟩) 1 1, .string nm, .int .u8 8, .slice none 0 0]
  pi : BlkA 83 (b + 5) w #[.string ⟨#[120]⟩, .int .i64 0, .int .i64 0]
  po : BlkA 83 (b + 6) w #[.string ⟨#[121]⟩, .int .i64 1, .int .i64 0]
theorem SmX.keep {b : Nat} {nm : ByteArray} {w w' : World} (h : SmX b nm w) (hk : ∀ k, k = b + 1 ∨ k = b + 2 ∨ k = b + 5 ∨ k = b + 6 → k < w.heap.size → w'.heap[k]? = w.heap[k]?) : SmX b nm w' :=
  ⟨h.i2.keep (hk _ (by omega) h.i2.lt), h.ac.keep (hk _ (by omega) h.ac.lt), h.pi.keep (hk _ (by omega) h.pi.lt), h.po.keep (hk _ (by omega) h.po.lt)⟩
theorem SmB.x {b : Nat} {tp : Int} {w : World} (h : SmB b tp w) : SmX b ⟨#[98]⟩ w := ⟨h.i2, h.ac, h.pi, h.po⟩
theorem SmB.but {b gb : Nat} {tp : Int} {w w' : World} (h : SmB b tp w) (hB : But gb w w') (hg : gb < b) : SmB b tp w' :=
  ⟨h.i2.keep (hB.block _ h.i2.lt (by omega)), h.ac.keep (hB.block _ h.ac.lt (by omega)), h.i7.keep (hB.block _ h.i7.lt (by omega)), h.ed.keep (hB.block _ h.ed.lt (by omega)), h.pi.keep (hB.block _ h.pi.lt (by omega)), h.po.keep (hB.block _ h.po.lt (by omega))⟩
theorem SmX.gr {b : Nat} {nm : List UInt8} {w : World} (h : SmX b (str nm) w) {x : Option Addr} {es : List GE} (hE : GrE w x es) (hl : es.length ≤ 10) : GrG w (some ⟨b + 2, 0, none⟩) x (some ⟨b + 5, 0, none⟩) (some ⟨b + 6, 0, none⟩) (gSN nm es) := by
  refine ⟨.inr ⟨b + 2, 0, rfl, fun k hk => ?_⟩, hE, .inr ⟨b + 5, 0, rfl, fun k hk => ?_⟩, .inr ⟨b + 6, 0, rfl, fun k hk => ?_⟩, by show 2 ≤ 1000000000000000; decide, by show es.length ≤ 1000000000000000; omega, by show 1 ≤ 1000000000000000; decide, by show 1 ≤ 1000000000000000; decide⟩
  · match k, hk with
    | 0, _ => exact ⟨h.ac.cell (k := 0) rfl, h.ac.cell (k := 1) rfl, by show 2 ≤ 255; decide, _, _, h.ac.cell (k := 2) rfl, arg_one h.i2 (by decide)⟩
    | 1, _ => exact ⟨h.ac.cell (k := 3) rfl, h.ac.cell (k := 4) rfl, by show 8 ≤ 255; decide, _, _, h.ac.cell (k := 5) rfl, arg_nil⟩
    | k + 2, hk => exact absurd hk (by show ¬ k + 2 < 2; omega)
  · match k, hk with
    | 0, _ => exact ⟨h.pi.cell (k := 0) rfl, h.pi.cell (k := 1) rfl, h.pi.cell (k := 2) rfl⟩
    | k + 1, hk => exact absurd hk (by show ¬ k + 1 < 1; omega)
  · match k, hk with
    | 0, _ => exact ⟨h.po.cell (k := 0) rfl, h.po.cell (k := 1) rfl, h.po.cell (k := 2) rfl⟩
    | k + 1, hk => exact absurd hk (by show ¬ k + 1 < 1; omega)
theorem grE_one {w : World} {g : Nat} {f : Int} {d : Option Addr} {k : Nat} {st : List Int} (h : BlkA 64 g w #[.int .i64 f, .int .i64 0, .int .i64 1, .int .i64 0, .slice d st.length k]) (ha : Arg w d st.length k st) : GrE w (some ⟨g, 0, none⟩) [eSN f st] :=
  .inr ⟨g, 0, rfl, fun i hi => by
    match i, hi with
    | 0, _ => exact ⟨h.cell (k := 0) rfl, h.cell (k := 1) rfl, h.cell (k := 2) rfl, h.cell (k := 3) rfl, _, _, h.cell (k := 4) rfl, ha⟩
    | i + 1, hi => exact absurd hi (by show ¬ i + 1 < 1; omega)⟩
theorem FilS.later {S : TypeId} {w0 wr w' : World} {hb : Nat} {T : TypeId} {c : Nat} {cs : Array Value} {v : Value} {n : Nat} {xs : List Value} (h : FilS S w0 wr hb T c cs v n xs) (hb' : Below wr.heap.size wr w') : FilS S w0 w' hb T c cs v n xs :=
  ⟨h.blk.below hb', owns_below h.row hb', h.old, h.chg.trans (F' := fun k => k = hb ∨ w0.heap.size ≤ k) (Chg.of_below hb') (fun _ hk => .inl hk)⟩
/-- The small graph whose edge's tokens grow: k of them behind the first. -/
structure FilT (w wr : World) (b k : Nat) (d : Option Addr) (kk : Nat) : Prop where
  box : BlkA 64 (b + 4) wr #[.int .i64 0, .int .i64 0, .int .i64 1, .int .i64 0, .slice d (k + 1) kk]
  row : wr.ownsRow (b + 3) 3 1 (.slice d (k + 1) kk) (k + 1) (((7 : Int) :: List.replicate k 1).map (Value.int .i64))
  sx : SmX b ⟨#[98]⟩ wr
  gx : BlkA 31 w.heap.size wr #[.string ⟨#[103]⟩, .slice (some ⟨b + 2, 0, none⟩) 2 2, .slice (some ⟨b + 4, 0, none⟩) 1 1, .slice (some ⟨b + 5, 0, none⟩) 1 1, .slice (some ⟨b + 6, 0, none⟩) 1 1]
  low : w.heap.size < b
  bel : Below w.heap.size w wr
theorem FilT.far {w wr : World} {b k : Nat} {d : Option Addr} {kk : Nat} (h : FilT w wr b k d kk) : (.slice d (k + 1) kk : Value).ownBlock ≠ some (b + 4) := fun e => own_type h.row h.box (by decide) _ e rfl
theorem tok_next (k : Nat) : ((7 : Int) :: List.replicate (k + 1) 1).map (Value.int .i64) = ((7 : Int) :: List.replicate k 1).map (Value.int .i64) ++ [.int .i64 1] := by
  rw [List.replicate_succ', ← List.cons_append, List.map_append]
  rfl
theorem FilT.step {w V u : World} {b k : Nat} {d : Option Addr} {kk : Nat} (h : FilT w V b k d kk) (ap : AppE (fun _ es => es = [.int .i64 1]) V (b + 3) 3 1 (.slice d (k + 1) kk) (k + 1) (((7 : Int) :: List.replicate k 1).map (Value.int .i64)) 64 (b + 4) 4 #[.int .i64 0, .int .i64 0, .int .i64 1, .int .i64 0, .slice d (k + 1) kk] u) : ∃ d' kk', FilT w u b (k + 1) d' kk' := by
  obtain ⟨es, w1, u1, z, hD, hbut, hblk⟩ := ap
  obtain ⟨g, cap, rfl⟩ := hD.shape
  have e1 : es = [.int .i64 1] := hD.el
  subst e1
  have hlow := h.low
  have hb1 : BlkA 64 (b + 4) u1 _ := h.box.keep (hD.chg.block _ h.box.lt h.far)
  have kp : ∀ j, j < V.heap.size → (.slice d (k + 1) kk : Value).ownBlock ≠ some j → j ≠ b + 4 → u.heap[j]? = V.heap[j]? := fun j hj hn h4 => (hbut.block j (Nat.lt_of_lt_of_le hj hD.chg.size) h4).trans (hD.chg.block j hj hn)
  have no : ∀ j, j < b + 3 → (.slice d (k + 1) kk : Value).ownBlock ≠ some j := fun j hj e => by have := own_row h.row j e; omega
  refine ⟨some ⟨g, 0, none⟩, cap, hblk, ?_, ?_, ?_, h.low, ?_⟩
  · rw [tok_next]
    exact ownR_keep hD.own (fun j hj => hbut.block j (own_lt hD.own j hj) (own_type hD.own hb1 (by decide) j hj))
  · refine h.sx.keep fun j hj hl => kp j hl ?_ (by omega)
    rcases hj with rfl | rfl | rfl | rfl
    · exact no _ (by omega)
    · exact no _ (by omega)
    · exact fun e => own_type h.row h.sx.pi (by decide) _ e rfl
    · exact fun e => own_type h.row h.sx.po (by decide) _ e rfl
  · exact h.gx.keep (kp _ h.gx.lt (no _ (by omega)) (by omega))
  · exact h.bel.trans ⟨hbut.os.trans hD.chg.os, hbut.tape.trans hD.chg.tape, hbut.output.trans hD.chg.output, Nat.le_trans hD.chg.size hbut.size, fun j hj => kp j (Nat.lt_of_lt_of_le hj h.bel.size) (no _ (by omega)) (by omega)⟩
theorem FilT.later {w wr w' : World} {b k : Nat} {d : Option Addr} {kk : Nat} (h : FilT w wr b k d kk) (hb : Below wr.heap.size wr w') : FilT w w' b k d kk :=
  ⟨h.box.below hb, owns_below h.row hb, h.sx.keep (fun j _ hl => hb.block j hl), h.gx.below hb, h.low, h.bel.trans (hb.mono h.bel.size)⟩
theorem FilT.gr {w wr : World} {b k : Nat} {d : Option Addr} {kk : Nat} (h : FilT w wr b k d kk) (hk : k ≤ 300) : GrG wr (some ⟨b + 2, 0, none⟩) (some ⟨b + 4, 0, none⟩) (some ⟨b + 5, 0, none⟩) (some ⟨b + 6, 0, none⟩) (gSN [98] [eSN 0 (7 :: List.replicate k 1)]) := by
  have hl : ((7 : Int) :: List.replicate k 1).length = k + 1 := by simp
  have hcap := own_capO h.row
  refine SmX.gr (nm := [98]) h.sx (grE_one (d := d) (k := kk) (by rw [hl]; exact h.box) ?_) (by simp)
  rw [hl]
  refine ⟨hl, by omega, fun e => ?_, fun i => ?_, ?_, hcap⟩
  · subst e
    rcases h.row.2 with ⟨hv, hn⟩ | ⟨g, c, cur, hv, -⟩
    · omega
    · cases hv
  · unfold nth
    rw [List.getD_eq_getElem?_getD]
    by_cases hi : i < ((7 : Int) :: List.replicate k 1).length
    · rw [List.getElem?_eq_getElem hi]
      have hm := List.getElem_mem hi
      simp only [Option.getD_some]
      rcases List.mem_cons.1 hm with e | e
      · rw [e]; decide
      · rw [(List.mem_replicate.1 e).2]; decide
    · rw [List.getElem?_eq_none (by omega)]; decide
  · have q : CapR (b + 3) wr d kk ((7 : Int) :: List.replicate k 1) := by unfold CapR; rw [hl]; exact h.row
    exact q.at
end Go.Proofs.Ytgflileajamonaa
