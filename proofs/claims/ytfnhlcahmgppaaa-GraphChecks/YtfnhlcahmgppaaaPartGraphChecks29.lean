/- Texts of one chain, laid one behind the other. -/
import Derived.Test.YtfnhlcahmgppaaaPartGraphChecks28
import Derived.Test.YtfnhlcahmgppaaaPartGraphChecks21
namespace Go.Proofs.Ytfnhlcahmgppaaa
open Go.ChangeShapes Go.WideShapes Go.ChangeAt Go.RowKit
set_option maxRecDepth 100000 in
set_option maxHeartbeats 8000000 in
theorem in8_any (g : GG) (a1 a2 a3 a4 : Option Addr) (c1 c2 c3 c4 : Nat) (k : Nat) (w : World) (h : GrG w a1 a2 a3 a4 g) (hk : k < g.ins.length) :
    Calls Try.prog 69 #[.agg #[.string (str g.name), .slice a1 g.actors.length c1, .slice a2 g.edges.length c2, .slice a3 g.ins.length c3, .slice a4 g.outs.length c4], .int .i64 (k : Int)] w fun e w' => e = .returned (.tuple #[.int .i64 (inC g k).1, .int .i64 ((inC g k).2 : Int)]) ∧ Below w.heap.size w w' := by
  have hki : (k : Int) < (g.ins.length : Int) := by omega
  have n1 : (g.actors.length : Int) ≤ 1000000000000000 := by have := h.l1; omega
  have n2 : (g.edges.length : Int) ≤ 1000000000000000 := by have := h.l2; omega
  have n3 : (g.ins.length : Int) ≤ 1000000000000000 := by have := h.l3; omega
  have n4 : (g.outs.length : Int) ≤ 1000000000000000 := by have := h.l4; omega
  have ba := (Below.refl w.heap.size w).alloc (Nat.le_refl _) (.cells #[.string (str g.name), .slice a1 g.actors.length c1, .slice a2 g.edges.length c2, .slice a3 g.ins.length c3, .slice a4 g.outs.length c4] 26)
  have HG := hiddenG h
  have NM : Hid (∀ U, Below w.heap.size w U → Calls Try.prog 93 #[.agg #[.string (str g.name), .slice a1 g.actors.length c1, .slice a2 g.edges.length c2, .slice a3 g.ins.length c3, .slice a4 g.outs.length c4], .int .i64 (g.actors.length : Int), .int .i64 (k : Int), .int .i64 0, .string (str (nthP g.ins k).name)] U fun e w' => e = .returned (.bool (namedB g g.actors.length k 0 (nthP g.ins k).name)) ∧ Below U.heap.size U w') := fun U hb => named_any g a1 a2 a3 a4 c1 c2 c3 c4 g.actors.length k 0 _ U (HG.out.below hb) (Nat.le_refl _) (Nat.le_of_lt hk) (Nat.zero_le _)
  have RN : Hid (∀ U, Calls Try.prog 65 #[.string (str (nthP g.ins k).name)] U fun e w' => e = .returned (.bool (nameB (nthP g.ins k).name)) ∧ U = w') := fun U => rname_any _ U
  have TK : Hid (∀ U, Below w.heap.size w U → Calls Try.prog 97 #[.agg #[.string (str g.name), .slice a1 g.actors.length c1, .slice a2 g.edges.length c2, .slice a3 g.ins.length c3, .slice a4 g.outs.length c4], .int .i64 (g.edges.length : Int), .int .i64 (k : Int), .int .i64 (nthP g.ins k).actor, .int .i64 (nthP g.ins k).port] U fun e w' => e = .returned (.bool (inTk g g.edges.length k (nthP g.ins k).actor (nthP g.ins k).port)) ∧ Below U.heap.size U w') := fun U hb => inTaken_any g a1 a2 a3 a4 c1 c2 c3 c4 g.edges.length k _ _ U (HG.out.below hb) (Nat.le_refl _) (Nat.le_of_lt hk)
  have EN : Hid (∀ U, Below w.heap.size w U → Calls Try.prog 95 #[.agg #[.string (str g.name), .slice a1 g.actors.length c1, .slice a2 g.edges.length c2, .slice a3 g.ins.length c3, .slice a4 g.outs.length c4], .int .i64 (nthP g.ins k).actor, .int .i64 (nthP g.ins k).port, .bool false, .bool (inTk g g.edges.length k (nthP g.ins k).actor (nthP g.ins k).port)] U fun e w' => e = .returned (.int .i64 (inEnd g g.edges.length k (nthP g.ins k).actor (nthP g.ins k).port)) ∧ Below U.heap.size U w') := fun U hb => end8_any g a1 a2 a3 a4 c1 c2 c3 c4 _ _ false _ U (HG.out.below hb)
  have HC : Hid (inC g k = if nameB (nthP g.ins k).name = false then (82, 0) else if namedB g g.actors.length k 0 (nthP g.ins k).name = true then (83, 0) else (inEnd g g.edges.length k (nthP g.ins k).actor (nthP g.ins k).port, 2)) := by rfl
  have B0 := hiddenG (gbox_new w #[.string (str g.name), .slice a1 g.actors.length c1, .slice a2 g.edges.length c2, .slice a3 g.ins.length c3, .slice a4 g.outs.length c4])
  have y2 := B0.out.1.cell (k := 3) rfl
  obtain ⟨b, off, ha2, hc⟩ : ∃ b off, a3 = some ⟨b, off, none⟩ ∧ ∀ j, j < g.ins.length → _ := by
    rcases (h.below ba).I with e | q
    · rw [e] at hk; exact absurd hk (Nat.not_lt_zero _)
    · exact q
  obtain ⟨x0, x1, x2⟩ := hc k hk
  rw [ha2] at y2
  clear hc ba h
  generalize namedB g g.actors.length k 0 (nthP g.ins k).name = q2 at *
  generalize inEnd g g.edges.length k (nthP g.ins k).actor (nthP g.ins k).port = ev at *
  generalize inTk g g.edges.length k (nthP g.ins k).actor (nthP g.ins k).port = tk at *
  generalize nthP g.ins k = E at *
  obtain ⟨en, ac, po⟩ := E
  simp only at x0 x1 x2 NM RN TK EN HC
  generalize nameB en = q1 at *
  have bv := B0.out.2.trans (((Below.refl (w.alloc (.cells #[.string (str g.name), .slice a1 g.actors.length c1, .slice a2 g.edges.length c2, .slice a3 g.ins.length c3, .slice a4 g.outs.length c4] 26)).heap.size (w.alloc (.cells #[.string (str g.name), .slice a1 g.actors.length c1, .slice a2 g.edges.length c2, .slice a3 g.ins.length c3, .slice a4 g.outs.length c4] 26))).alloc (Nat.le_refl _) (.cells #[.string (str en), .int .i64 ac, .int .i64 po] 72)).mono B0.out.2.size)
  have GB := hiddenG (B0.out.1.below ((Below.refl (w.alloc (.cells #[.string (str g.name), .slice a1 g.actors.length c1, .slice a2 g.edges.length c2, .slice a3 g.ins.length c3, .slice a4 g.outs.length c4] 26)).heap.size (w.alloc (.cells #[.string (str g.name), .slice a1 g.actors.length c1, .slice a2 g.edges.length c2, .slice a3 g.ins.length c3, .slice a4 g.outs.length c4] 26))).alloc (Nat.le_refl _) (.cells #[.string (str en), .int .i64 ac, .int .i64 po] 72)))
  have BX : Hid (BlkA 72 (w.heap.size + 1) ((w.alloc (.cells #[.string (str g.name), .slice a1 g.actors.length c1, .slice a2 g.edges.length c2, .slice a3 g.ins.length c3, .slice a4 g.outs.length c4] 26)).alloc (.cells #[.string (str en), .int .i64 ac, .int .i64 po] 72)) #[.string (str en), .int .i64 ac, .int .i64 po]) := by
    have q := blkA_new 72 (w.alloc (.cells #[.string (str g.name), .slice a1 g.actors.length c1, .slice a2 g.edges.length c2, .slice a3 g.ins.length c3, .slice a4 g.outs.length c4] 26)) #[.string (str en), .int .i64 ac, .int .i64 po]
    rw [World.size_alloc] at q
    exact q
  have BV := hiddenG bv
  clear bv
  subst ha2
  go_enter Try.func69, Try.ntmps69
  go_upto_region 2 with fail
  generalize (w.alloc (.cells #[.string (str g.name), .slice a1 g.actors.length c1, .slice a2 g.edges.length c2, .slice (some ⟨b, off, none⟩) g.ins.length c3, .slice a4 g.outs.length c4] 26)).alloc (.cells #[.string (str en), .int .i64 ac, .int .i64 po] 72) = V at *
  have gx0 : V.cell? ⟨w.heap.size, 0, none⟩ = some (.string (str g.name)) := (GB.out).cell rfl
  have gx1 : V.cell? ⟨w.heap.size, 1, none⟩ = some (.slice a1 g.actors.length c1) := (GB.out).cell rfl
  have gx2 : V.cell? ⟨w.heap.size, 2, none⟩ = some (.slice a2 g.edges.length c2) := (GB.out).cell rfl
  have gx3 : V.cell? ⟨w.heap.size, 3, none⟩ = some (.slice (some ⟨b, off, none⟩) g.ins.length c3) := (GB.out).cell rfl
  have gx4 : V.cell? ⟨w.heap.size, 4, none⟩ = some (.slice a4 g.outs.length c4) := (GB.out).cell rfl
  have bb0 := BX.out.cell (k := 0) rfl
  have bb1 := BX.out.cell (k := 1) rfl
  have bb2 := BX.out.cell (k := 2) rfl
  clear x0 x1 x2 y2
  cases q1
  · go_wp2_with (go_at_call 65; (with_reducible refine (RN.out _).mono ?_); rintro e w' ⟨rfl, rfl⟩)
    refine bodyPost_ret (v := .tuple #[.int .i64 82, .int .i64 0]) (by simp [results, Try.results69, go_sem]) rfl ?_
    exact ⟨by rw [HC.out]; rfl, BV.out⟩
  · cases q2
    · go_upto_region 6 with (first
        | (go_at_call 93; (with_reducible refine (NM.out _ BV.out).mono ?_); rintro e w2 ⟨rfl, b2⟩; have B2 := hiddenG b2; clear b2)
        | (go_at_call 65; (with_reducible refine (RN.out _).mono ?_); rintro e w' ⟨rfl, rfl⟩))
      have BW := hiddenG (BV.out.trans (B2.out.mono BV.out.size))
      have gy0 := cell_keep B2.out gx0
      have gy1 := cell_keep B2.out gx1
      have gy2 := cell_keep B2.out gx2
      have gy3 := cell_keep B2.out gx3
      have gy4 := cell_keep B2.out gx4
      have bc0 := cell_keep B2.out bb0
      have bc1 := cell_keep B2.out bb1
      have bc2 := cell_keep B2.out bb2
      have TKV : Hid (∀ U, Below w2.heap.size w2 U → Calls Try.prog 97 #[.agg #[.string (str g.name), .slice a1 g.actors.length c1, .slice a2 g.edges.length c2, .slice (some ⟨b, off, none⟩) g.ins.length c3, .slice a4 g.outs.length c4], .int .i64 (g.edges.length : Int), .int .i64 (k : Int), .int .i64 ac, .int .i64 po] U fun e w' => e = .returned (.bool tk) ∧ Below U.heap.size U w') := fun U hb => TK.out U (BW.out.trans (hb.mono BW.out.size))
      have ENV : Hid (∀ U, Below w2.heap.size w2 U → Calls Try.prog 95 #[.agg #[.string (str g.name), .slice a1 g.actors.length c1, .slice a2 g.edges.length c2, .slice (some ⟨b, off, none⟩) g.ins.length c3, .slice a4 g.outs.length c4], .int .i64 ac, .int .i64 po, .bool false, .bool tk] U fun e w' => e = .returned (.int .i64 ev) ∧ Below U.heap.size U w') := fun U hb => EN.out U (BW.out.trans (hb.mono BW.out.size))
      clear gx0 gx1 gx2 gx3 gx4 bb0 bb1 bb2
      refine wp_region_said 16 (fun i u v => match i with
          | 0 => v = .agg #[.string (str g.name), .slice a1 g.actors.length c1, .slice a2 g.edges.length c2, .slice (some ⟨b, off, none⟩) g.ins.length c3, .slice a4 g.outs.length c4]
          | 1 => v = .pointer (some ⟨w.heap.size + 1, 1, none⟩)
          | 2 => v = .int .i64 ac
          | 3 => v = .pointer (some ⟨w.heap.size + 1, 2, none⟩)
          | 4 => v = .int .i64 po
          | 5 => v = .agg #[.string (str g.name), .slice a1 g.actors.length c1, .slice a2 g.edges.length c2, .slice (some ⟨b, off, none⟩) g.ins.length c3, .slice a4 g.outs.length c4]
          | 6 => v = .pointer (some ⟨w.heap.size, 2, none⟩)
          | 7 => v = .slice a2 g.edges.length c2
          | 8 => v = .int .i64 (g.edges.length : Int)
          | 9 => v = .int .i64 (k : Int)
          | 10 => v = .pointer (some ⟨w.heap.size + 1, 1, none⟩)
          | 11 => v = .int .i64 ac
          | 12 => v = .pointer (some ⟨w.heap.size + 1, 2, none⟩)
          | 13 => v = .int .i64 po
          | 14 => v = .bool tk
          | 15 => v = .int .i64 ev
          | _ => True) (by kernel_rfl) (by kernel_rfl) (by kernel_rfl) (by kernel_rfl) ?_ ?_ ?_
      · intro i w v w' h hb
        match i, h with
        | 0, h => exact h
        | 1, h => exact h
        | 2, h => exact h
        | 3, h => exact h
        | 4, h => exact h
        | 5, h => exact h
        | 6, h => exact h
        | 7, h => exact h
        | 8, h => exact h
        | 9, h => exact h
        | 10, h => exact h
        | 11, h => exact h
        | 12, h => exact h
        | 13, h => exact h
        | 14, h => exact h
        | 15, h => exact h
        | _ + 16, _ => trivial
      · intro i o ρ w' hi ho hb hc hf hfr hdep
        have g0 := cell_keep hb gy0
        have g1 := cell_keep hb gy1
        have g2 := cell_keep hb gy2
        have g3 := cell_keep hb gy3
        have g4 := cell_keep hb gy4
        have b0 := cell_keep hb bc0
        have b1 := cell_keep hb bc1
        have b2 := cell_keep hb bc2
        match i, hi with
        | 0, _ =>
          simp only [gTA, gCZ, gSI] at ho
          subst ho
          have ts : ρ (.tmp 2) = .pointer (some ⟨w.heap.size, 0, none⟩) := hfr 2 (by kernel_rfl)
          simp [go_sem, ts, g0, g1, g2, g3, g4]
          exact ⟨Below.refl _ _, rfl⟩
        | 1, _ =>
          simp only [gTA, gCZ, gCS, gSI] at ho
          subst ho
          have ts : ρ (.tmp 6) = .pointer (some ⟨w.heap.size + 1, 0, none⟩) := hfr 6 (by kernel_rfl)
          simp [go_sem, ts]
          exact ⟨Below.refl _ _, rfl⟩
        | 2, _ =>
          simp only [gTA, gCZ, gCS, gSI] at ho
          subst ho
          have ts : ρ (.tmp 25) = .pointer (some ⟨w.heap.size + 1, 1, none⟩) := hdep 1 25 (by kernel_rfl) (by kernel_rfl)
          simp [go_sem, ts, b1]
          exact ⟨Below.refl _ _, rfl⟩
        | 3, _ =>
          simp only [gTA, gCZ, gCS, gSI] at ho
          subst ho
          have ts : ρ (.tmp 6) = .pointer (some ⟨w.heap.size + 1, 0, none⟩) := hfr 6 (by kernel_rfl)
          simp [go_sem, ts]
          exact ⟨Below.refl _ _, rfl⟩
        | 4, _ =>
          simp only [gTA, gCZ, gCS, gSI] at ho
          subst ho
          have ts : ρ (.tmp 27) = .pointer (some ⟨w.heap.size + 1, 2, none⟩) := hdep 3 27 (by kernel_rfl) (by kernel_rfl)
          simp [go_sem, ts, b2]
          exact ⟨Below.refl _ _, rfl⟩
        | 5, _ =>
          simp only [gTA, gCZ, gCS, gSI] at ho
          subst ho
          have ts : ρ (.tmp 2) = .pointer (some ⟨w.heap.size, 0, none⟩) := hfr 2 (by kernel_rfl)
          simp [go_sem, ts, g0, g1, g2, g3, g4]
          exact ⟨Below.refl _ _, rfl⟩
        | 6, _ =>
          simp only [gTA, gCZ, gCS, gSI] at ho
          subst ho
          have ts : ρ (.tmp 2) = .pointer (some ⟨w.heap.size, 0, none⟩) := hfr 2 (by kernel_rfl)
          simp [go_sem, ts]
          exact ⟨Below.refl _ _, rfl⟩
        | 7, _ =>
          simp only [gTA, gCZ, gCS, gSI] at ho
          subst ho
          have ts : ρ (.tmp 30) = .pointer (some ⟨w.heap.size, 2, none⟩) := hdep 6 30 (by kernel_rfl) (by kernel_rfl)
          simp [go_sem, ts, g2]
          exact ⟨Below.refl _ _, rfl⟩
        | 8, _ =>
          simp only [gTA, gCZ, gCS, gSI] at ho
          subst ho
          have ts : ρ (.tmp 31) = .slice a2 g.edges.length c2 := hdep 7 31 (by kernel_rfl) (by kernel_rfl)
          simp [go_sem, ts]
          exact ⟨Below.refl _ _, rfl⟩
        | 9, _ =>
          simp only [gTA, gCZ, gCS, gSI] at ho
          subst ho
          have ts : ρ (.tmp 1) = .int .i64 (k : Int) := hfr 1 (by kernel_rfl)
          simp [go_sem, ts]
          exact ⟨Below.refl _ _, rfl⟩
        | 10, _ =>
          simp only [gTA, gCZ, gCS, gSI] at ho
          subst ho
          have ts : ρ (.tmp 6) = .pointer (some ⟨w.heap.size + 1, 0, none⟩) := hfr 6 (by kernel_rfl)
          simp [go_sem, ts]
          exact ⟨Below.refl _ _, rfl⟩
        | 11, _ =>
          simp only [gTA, gCZ, gCS, gSI] at ho
          subst ho
          have ts : ρ (.tmp 34) = .pointer (some ⟨w.heap.size + 1, 1, none⟩) := hdep 10 34 (by kernel_rfl) (by kernel_rfl)
          simp [go_sem, ts, b1]
          exact ⟨Below.refl _ _, rfl⟩
        | 12, _ =>
          simp only [gTA, gCZ, gCS, gSI] at ho
          subst ho
          have ts : ρ (.tmp 6) = .pointer (some ⟨w.heap.size + 1, 0, none⟩) := hfr 6 (by kernel_rfl)
          simp [go_sem, ts]
          exact ⟨Below.refl _ _, rfl⟩
        | 13, _ =>
          simp only [gTA, gCZ, gCS, gSI] at ho
          subst ho
          have ts : ρ (.tmp 36) = .pointer (some ⟨w.heap.size + 1, 2, none⟩) := hdep 12 36 (by kernel_rfl) (by kernel_rfl)
          simp [go_sem, ts, b2]
          exact ⟨Below.refl _ _, rfl⟩
        | 14, _ =>
          simp only [gTA, gCZ, gCS, gSI] at ho
          subst ho
          have t0 : ρ (.tmp 29) = .agg #[.string (str g.name), .slice a1 g.actors.length c1, .slice a2 g.edges.length c2, .slice (some ⟨b, off, none⟩) g.ins.length c3, .slice a4 g.outs.length c4] := hdep 5 29 (by kernel_rfl) (by kernel_rfl)
          have t1 : ρ (.tmp 32) = .int .i64 (g.edges.length : Int) := hdep 8 32 (by kernel_rfl) (by kernel_rfl)
          have t2 : ρ (.tmp 33) = .int .i64 (k : Int) := hdep 9 33 (by kernel_rfl) (by kernel_rfl)
          have t3 : ρ (.tmp 35) = .int .i64 ac := hdep 11 35 (by kernel_rfl) (by kernel_rfl)
          have t4 : ρ (.tmp 37) = .int .i64 po := hdep 13 37 (by kernel_rfl) (by kernel_rfl)
          simp [go_sem, t0, t1, t2, t3, t4, hf]
          exact ⟨rfl, (TKV.out w' hb).mono fun e w'' hh => ⟨_, hh.1, hh.2, rfl⟩⟩
        | 15, _ =>
          simp only [gTA, gCZ, gCS, gSI] at ho
          subst ho
          have t0 : ρ (.tmp 24) = .agg #[.string (str g.name), .slice a1 g.actors.length c1, .slice a2 g.edges.length c2, .slice (some ⟨b, off, none⟩) g.ins.length c3, .slice a4 g.outs.length c4] := hdep 0 24 (by kernel_rfl) (by kernel_rfl)
          have t1 : ρ (.tmp 26) = .int .i64 ac := hdep 2 26 (by kernel_rfl) (by kernel_rfl)
          have t2 : ρ (.tmp 28) = .int .i64 po := hdep 4 28 (by kernel_rfl) (by kernel_rfl)
          have t3 : ρ (.tmp 38) = .bool tk := hdep 14 38 (by kernel_rfl) (by kernel_rfl)
          simp [go_sem, t0, t1, t2, t3, hf, hc]
          exact ⟨rfl, (ENV.out w' hb).mono fun e w'' hh => ⟨_, hh.1, hh.2, rfl⟩⟩
        | k + 16, h => exact absurd h (by omega)
      · intro V9 w9 q9 hS
        have e0 : V9 0 = .agg #[.string (str g.name), .slice a1 g.actors.length c1, .slice a2 g.edges.length c2, .slice (some ⟨b, off, none⟩) g.ins.length c3, .slice a4 g.outs.length c4] := hS 0 (by decide)
        have e1 : V9 1 = .pointer (some ⟨w.heap.size + 1, 1, none⟩) := hS 1 (by decide)
        have e2 : V9 2 = .int .i64 ac := hS 2 (by decide)
        have e3 : V9 3 = .pointer (some ⟨w.heap.size + 1, 2, none⟩) := hS 3 (by decide)
        have e4 : V9 4 = .int .i64 po := hS 4 (by decide)
        have e5 : V9 5 = .agg #[.string (str g.name), .slice a1 g.actors.length c1, .slice a2 g.edges.length c2, .slice (some ⟨b, off, none⟩) g.ins.length c3, .slice a4 g.outs.length c4] := hS 5 (by decide)
        have e6 : V9 6 = .pointer (some ⟨w.heap.size, 2, none⟩) := hS 6 (by decide)
        have e7 : V9 7 = .slice a2 g.edges.length c2 := hS 7 (by decide)
        have e8 : V9 8 = .int .i64 (g.edges.length : Int) := hS 8 (by decide)
        have e9 : V9 9 = .int .i64 (k : Int) := hS 9 (by decide)
        have e10 : V9 10 = .pointer (some ⟨w.heap.size + 1, 1, none⟩) := hS 10 (by decide)
        have e11 : V9 11 = .int .i64 ac := hS 11 (by decide)
        have e12 : V9 12 = .pointer (some ⟨w.heap.size + 1, 2, none⟩) := hS 12 (by decide)
        have e13 : V9 13 = .int .i64 po := hS 13 (by decide)
        have e14 : V9 14 = .bool tk := hS 14 (by decide)
        have e15 : V9 15 = .int .i64 ev := hS 15 (by decide)
        simp only [List.drop_succ_cons, List.drop_zero, List.take_succ_cons, List.take_zero, puts, e0, e1, e2, e3, e4, e5, e6, e7, e8, e9, e10, e11, e12, e13, e14, e15]
        clear hS e0 e1 e2 e3 e4 e5 e6 e7 e8 e9 e10 e11 e12 e13 e14 e15 V9
        simp only [Act.put, List.setIfInBounds_toArray, List.set_cons_zero, List.set_cons_succ]
        have B8 := hiddenG (BW.out.trans (q9.mono BW.out.size))
        clear q9
        go_wp2
        refine bodyPost_ret (v := .tuple #[.int .i64 ev, .int .i64 2]) (by simp [results, Try.results69, go_sem]) rfl ?_
        exact ⟨by rw [HC.out]; rfl, B8.out⟩
    · go_wp2_with (first
        | (go_at_call 93; (with_reducible refine (NM.out _ BV.out).mono ?_); rintro e w2 ⟨rfl, b2⟩; have B2 := hiddenG b2; clear b2)
        | (go_at_call 65; (with_reducible refine (RN.out _).mono ?_); rintro e w' ⟨rfl, rfl⟩))
      refine bodyPost_ret (v := .tuple #[.int .i64 83, .int .i64 0]) (by simp [results, Try.results69, go_sem]) rfl ?_
      exact ⟨by rw [HC.out]; rfl, BV.out.trans (B2.out.mono BV.out.size)⟩
set_option maxRecDepth 100000 in
set_option maxHeartbeats 8000000 in
theorem out8_any (g : GG) (a1 a2 a3 a4 : Option Addr) (c1 c2 c3 c4 : Nat) (k : Nat) (w : World) (h : GrG w a1 a2 a3 a4 g) (hk : k < g.outs.length) :
    Calls Try.prog 70 #[.agg #[.string (str g.name), .slice a1 g.actors.length c1, .slice a2 g.edges.length c2, .slice a3 g.ins.length c3, .slice a4 g.outs.length c4], .int .i64 (k : Int)] w fun e w' => e = .returned (.tuple #[.int .i64 (outC g k).1, .int .i64 ((outC g k).2 : Int)]) ∧ Below w.heap.size w w' := by
  have hki : (k : Int) < (g.outs.length : Int) := by omega
  have n1 : (g.actors.length : Int) ≤ 1000000000000000 := by have := h.l1; omega
  have n2 : (g.edges.length : Int) ≤ 1000000000000000 := by have := h.l2; omega
  have n3 : (g.ins.length : Int) ≤ 1000000000000000 := by have := h.l3; omega
  have n4 : (g.outs.length : Int) ≤ 1000000000000000 := by have := h.l4; omega
  have ba := (Below.refl w.heap.size w).alloc (Nat.le_refl _) (.cells #[.string (str g.name), .slice a1 g.actors.length c1, .slice a2 g.edges.length c2, .slice a3 g.ins.length c3, .slice a4 g.outs.length c4] 26)
  have HG := hiddenG h
  have NM : Hid (∀ U, Below w.heap.size w U → Calls Try.prog 93 #[.agg #[.string (str g.name), .slice a1 g.actors.length c1, .slice a2 g.edges.length c2, .slice a3 g.ins.length c3, .slice a4 g.outs.length c4], .int .i64 (g.actors.length : Int), .int .i64 (g.ins.length : Int), .int .i64 (k : Int), .string (str (nthP g.outs k).name)] U fun e w' => e = .returned (.bool (namedB g g.actors.length g.ins.length k (nthP g.outs k).name)) ∧ Below U.heap.size U w') := fun U hb => named_any g a1 a2 a3 a4 c1 c2 c3 c4 g.actors.length g.ins.length k _ U (HG.out.below hb) (Nat.le_refl _) (Nat.le_refl _) (Nat.le_of_lt hk)
  have RN : Hid (∀ U, Calls Try.prog 65 #[.string (str (nthP g.outs k).name)] U fun e w' => e = .returned (.bool (nameB (nthP g.outs k).name)) ∧ U = w') := fun U => rname_any _ U
  have TK : Hid (∀ U, Below w.heap.size w U → Calls Try.prog 96 #[.agg #[.string (str g.name), .slice a1 g.actors.length c1, .slice a2 g.edges.length c2, .slice a3 g.ins.length c3, .slice a4 g.outs.length c4], .int .i64 (g.edges.length : Int), .int .i64 (k : Int), .int .i64 (nthP g.outs k).actor, .int .i64 (nthP g.outs k).port] U fun e w' => e = .returned (.bool (outTk g g.edges.length k (nthP g.outs k).actor (nthP g.outs k).port)) ∧ Below U.heap.size U w') := fun U hb => outTaken_any g a1 a2 a3 a4 c1 c2 c3 c4 g.edges.length k _ _ U (HG.out.below hb) (Nat.le_refl _) (Nat.le_of_lt hk)
  have EN : Hid (∀ U, Below w.heap.size w U → Calls Try.prog 95 #[.agg #[.string (str g.name), .slice a1 g.actors.length c1, .slice a2 g.edges.length c2, .slice a3 g.ins.length c3, .slice a4 g.outs.length c4], .int .i64 (nthP g.outs k).actor, .int .i64 (nthP g.outs k).port, .bool true, .bool (outTk g g.edges.length k (nthP g.outs k).actor (nthP g.outs k).port)] U fun e w' => e = .returned (.int .i64 (outEnd g g.edges.length k (nthP g.outs k).actor (nthP g.outs k).port)) ∧ Below U.heap.size U w') := fun U hb => end8_any g a1 a2 a3 a4 c1 c2 c3 c4 _ _ true _ U (HG.out.below hb)
  have HC : Hid (outC g k = if nameB (nthP g.outs k).name = false then (82, 0) else if namedB g g.actors.length g.ins.length k (nthP g.outs k).name = true then (83, 0) else (outEnd g g.edges.length k (nthP g.outs k).actor (nthP g.outs k).port, 1)) := by rfl
  have B0 := hiddenG (gbox_new w #[.string (str g.name), .slice a1 g.actors.length c1, .slice a2 g.edges.length c2, .slice a3 g.ins.length c3, .slice a4 g.outs.length c4])
  have y2 := B0.out.1.cell (k := 4) rfl
  obtain ⟨b, off, ha2, hc⟩ : ∃ b off, a4 = some ⟨b, off, none⟩ ∧ ∀ j, j < g.outs.length → _ := by
    rcases (h.below ba).O with e | q
    · rw [e] at hk; exact absurd hk (Nat.not_lt_zero _)
    · exact q
  obtain ⟨x0, x1, x2⟩ := hc k hk
  rw [ha2] at y2
  clear hc ba h
  generalize namedB g g.actors.length g.ins.length k (nthP g.outs k).name = q2 at *
  generalize outEnd g g.edges.length k (nthP g.outs k).actor (nthP g.outs k).port = ev at *
  generalize outTk g g.edges.length k (nthP g.outs k).actor (nthP g.outs k).port = tk at *
  generalize nthP g.outs k = E at *
  obtain ⟨en, ac, po⟩ := E
  simp only at x0 x1 x2 NM RN TK EN HC
  generalize nameB en = q1 at *
  have bv := B0.out.2.trans (((Below.refl (w.alloc (.cells #[.string (str g.name), .slice a1 g.actors.length c1, .slice a2 g.edges.length c2, .slice a3 g.ins.length c3, .slice a4 g.outs.length c4] 26)).heap.size (w.alloc (.cells #[.string (str g.name), .slice a1 g.actors.length c1, .slice a2 g.edges.length c2, .slice a3 g.ins.length c3, .slice a4 g.outs.length c4] 26))).alloc (Nat.le_refl _) (.cells #[.string (str en), .int .i64 ac, .int .i64 po] 72)).mono B0.out.2.size)
  have GB := hiddenG (B0.out.1.below ((Below.refl (w.alloc (.cells #[.string (str g.name), .slice a1 g.actors.length c1, .slice a2 g.edges.length c2, .slice a3 g.ins.length c3, .slice a4 g.outs.length c4] 26)).heap.size (w.alloc (.cells #[.string (str g.name), .slice a1 g.actors.length c1, .slice a2 g.edges.length c2, .slice a3 g.ins.length c3, .slice a4 g.outs.length c4] 26))).alloc (Nat.le_refl _) (.cells #[.string (str en), .int .i64 ac, .int .i64 po] 72)))
  have BX : Hid (BlkA 72 (w.heap.size + 1) ((w.alloc (.cells #[.string (str g.name), .slice a1 g.actors.length c1, .slice a2 g.edges.length c2, .slice a3 g.ins.length c3, .slice a4 g.outs.length c4] 26)).alloc (.cells #[.string (str en), .int .i64 ac, .int .i64 po] 72)) #[.string (str en), .int .i64 ac, .int .i64 po]) := by
    have q := blkA_new 72 (w.alloc (.cells #[.string (str g.name), .slice a1 g.actors.length c1, .slice a2 g.edges.length c2, .slice a3 g.ins.length c3, .slice a4 g.outs.length c4] 26)) #[.string (str en), .int .i64 ac, .int .i64 po]
    rw [World.size_alloc] at q
    exact q
  have BV := hiddenG bv
  clear bv
  subst ha2
  go_enter Try.func70, Try.ntmps70
  go_upto_region 2 with fail
  generalize (w.alloc (.cells #[.string (str g.name), .slice a1 g.actors.length c1, .slice a2 g.edges.length c2, .slice a3 g.ins.length c3, .slice (some ⟨b, off, none⟩) g.outs.length c4] 26)).alloc (.cells #[.string (str en), .int .i64 ac, .int .i64 po] 72) = V at *
  have gx0 : V.cell? ⟨w.heap.size, 0, none⟩ = some (.string (str g.name)) := (GB.out).cell rfl
  have gx1 : V.cell? ⟨w.heap.size, 1, none⟩ = some (.slice a1 g.actors.length c1) := (GB.out).cell rfl
  have gx2 : V.cell? ⟨w.heap.size, 2, none⟩ = some (.slice a2 g.edges.length c2) := (GB.out).cell rfl
  have gx3 : V.cell? ⟨w.heap.size, 3, none⟩ = some (.slice a3 g.ins.length c3) := (GB.out).cell rfl
  have gx4 : V.cell? ⟨w.heap.size, 4, none⟩ = some (.slice (some ⟨b, off, none⟩) g.outs.length c4) := (GB.out).cell rfl
  have bb0 := BX.out.cell (k := 0) rfl
  have bb1 := BX.out.cell (k := 1) rfl
  have bb2 := BX.out.cell (k := 2) rfl
  clear x0 x1 x2 y2
  cases q1
  · go_wp2_with (go_at_call 65; (with_reducible refine (RN.out _).mono ?_); rintro e w' ⟨rfl, rfl⟩)
    refine bodyPost_ret (v := .tuple #[.int .i64 82, .int .i64 0]) (by simp [results, Try.results70, go_sem]) rfl ?_
    exact ⟨by rw [HC.out]; rfl, BV.out⟩
  · cases q2
    · go_upto_region 6 with (first
        | (go_at_call 93; (with_reducible refine (NM.out _ BV.out).mono ?_); rintro e w2 ⟨rfl, b2⟩; have B2 := hiddenG b2; clear b2)
        | (go_at_call 65; (with_reducible refine (RN.out _).mono ?_); rintro e w' ⟨rfl, rfl⟩))
      have BW := hiddenG (BV.out.trans (B2.out.mono BV.out.size))
      have gy0 := cell_keep B2.out gx0
      have gy1 := cell_keep B2.out gx1
      have gy2 := cell_keep B2.out gx2
      have gy3 := cell_keep B2.out gx3
      have gy4 := cell_keep B2.out gx4
      have bc0 := cell_keep B2.out bb0
      have bc1 := cell_keep B2.out bb1
      have bc2 := cell_keep B2.out bb2
      have TKV : Hid (∀ U, Below w2.heap.size w2 U → Calls Try.prog 96 #[.agg #[.string (str g.name), .slice a1 g.actors.length c1, .slice a2 g.edges.length c2, .slice a3 g.ins.length c3, .slice (some ⟨b, off, none⟩) g.outs.length c4], .int .i64 (g.edges.length : Int), .int .i64 (k : Int), .int .i64 ac, .int .i64 po] U fun e w' => e = .returned (.bool tk) ∧ Below U.heap.size U w') := fun U hb => TK.out U (BW.out.trans (hb.mono BW.out.size))
      have ENV : Hid (∀ U, Below w2.heap.size w2 U → Calls Try.prog 95 #[.agg #[.string (str g.name), .slice a1 g.actors.length c1, .slice a2 g.edges.length c2, .slice a3 g.ins.length c3, .slice (some ⟨b, off, none⟩) g.outs.length c4], .int .i64 ac, .int .i64 po, .bool true, .bool tk] U fun e w' => e = .returned (.int .i64 ev) ∧ Below U.heap.size U w') := fun U hb => EN.out U (BW.out.trans (hb.mono BW.out.size))
      clear gx0 gx1 gx2 gx3 gx4 bb0 bb1 bb2
      refine wp_region_said 16 (fun i u v => match i with
          | 0 => v = .agg #[.string (str g.name), .slice a1 g.actors.length c1, .slice a2 g.edges.length c2, .slice a3 g.ins.length c3, .slice (some ⟨b, off, none⟩) g.outs.length c4]
          | 1 => v = .pointer (some ⟨w.heap.size + 1, 1, none⟩)
          | 2 => v = .int .i64 ac
          | 3 => v = .pointer (some ⟨w.heap.size + 1, 2, none⟩)
          | 4 => v = .int .i64 po
          | 5 => v = .agg #[.string (str g.name), .slice a1 g.actors.length c1, .slice a2 g.edges.length c2, .slice a3 g.ins.length c3, .slice (some ⟨b, off, none⟩) g.outs.length c4]
          | 6 => v = .pointer (some ⟨w.heap.size, 2, none⟩)
          | 7 => v = .slice a2 g.edges.length c2
          | 8 => v = .int .i64 (g.edges.length : Int)
          | 9 => v = .int .i64 (k : Int)
          | 10 => v = .pointer (some ⟨w.heap.size + 1, 1, none⟩)
          | 11 => v = .int .i64 ac
          | 12 => v = .pointer (some ⟨w.heap.size + 1, 2, none⟩)
          | 13 => v = .int .i64 po
          | 14 => v = .bool tk
          | 15 => v = .int .i64 ev
          | _ => True) (by kernel_rfl) (by kernel_rfl) (by kernel_rfl) (by kernel_rfl) ?_ ?_ ?_
      · intro i w v w' h hb
        match i, h with
        | 0, h => exact h
        | 1, h => exact h
        | 2, h => exact h
        | 3, h => exact h
        | 4, h => exact h
        | 5, h => exact h
        | 6, h => exact h
        | 7, h => exact h
        | 8, h => exact h
        | 9, h => exact h
        | 10, h => exact h
        | 11, h => exact h
        | 12, h => exact h
        | 13, h => exact h
        | 14, h => exact h
        | 15, h => exact h
        | _ + 16, _ => trivial
      · intro i o ρ w' hi ho hb hc hf hfr hdep
        have g0 := cell_keep hb gy0
        have g1 := cell_keep hb gy1
        have g2 := cell_keep hb gy2
        have g3 := cell_keep hb gy3
        have g4 := cell_keep hb gy4
        have b0 := cell_keep hb bc0
        have b1 := cell_keep hb bc1
        have b2 := cell_keep hb bc2
        match i, hi with
        | 0, _ =>
          simp only [gTA, gCZ, gSI] at ho
          subst ho
          have ts : ρ (.tmp 2) = .pointer (some ⟨w.heap.size, 0, none⟩) := hfr 2 (by kernel_rfl)
          simp [go_sem, ts, g0, g1, g2, g3, g4]
          exact ⟨Below.refl _ _, rfl⟩
        | 1, _ =>
          simp only [gTA, gCZ, gCS, gSI] at ho
          subst ho
          have ts : ρ (.tmp 6) = .pointer (some ⟨w.heap.size + 1, 0, none⟩) := hfr 6 (by kernel_rfl)
          simp [go_sem, ts]
          exact ⟨Below.refl _ _, rfl⟩
        | 2, _ =>
          simp only [gTA, gCZ, gCS, gSI] at ho
          subst ho
          have ts : ρ (.tmp 28) = .pointer (some ⟨w.heap.size + 1, 1, none⟩) := hdep 1 28 (by kernel_rfl) (by kernel_rfl)
          simp [go_sem, ts, b1]
          exact ⟨Below.refl _ _, rfl⟩
        | 3, _ =>
          simp only [gTA, gCZ, gCS, gSI] at ho
          subst ho
          have ts : ρ (.tmp 6) = .pointer (some ⟨w.heap.size + 1, 0, none⟩) := hfr 6 (by kernel_rfl)
          simp [go_sem, ts]
          exact ⟨Below.refl _ _, rfl⟩
        | 4, _ =>
          simp only [gTA, gCZ, gCS, gSI] at ho
          subst ho
          have ts : ρ (.tmp 30) = .pointer (some ⟨w.heap.size + 1, 2, none⟩) := hdep 3 30 (by kernel_rfl) (by kernel_rfl)
          simp [go_sem, ts, b2]
          exact ⟨Below.refl _ _, rfl⟩
        | 5, _ =>
          simp only [gTA, gCZ, gCS, gSI] at ho
          subst ho
          have ts : ρ (.tmp 2) = .pointer (some ⟨w.heap.size, 0, none⟩) := hfr 2 (by kernel_rfl)
          simp [go_sem, ts, g0, g1, g2, g3, g4]
          exact ⟨Below.refl _ _, rfl⟩
        | 6, _ =>
          simp only [gTA, gCZ, gCS, gSI] at ho
          subst ho
          have ts : ρ (.tmp 2) = .pointer (some ⟨w.heap.size, 0, none⟩) := hfr 2 (by kernel_rfl)
          simp [go_sem, ts]
          exact ⟨Below.refl _ _, rfl⟩
        | 7, _ =>
          simp only [gTA, gCZ, gCS, gSI] at ho
          subst ho
          have ts : ρ (.tmp 33) = .pointer (some ⟨w.heap.size, 2, none⟩) := hdep 6 33 (by kernel_rfl) (by kernel_rfl)
          simp [go_sem, ts, g2]
          exact ⟨Below.refl _ _, rfl⟩
        | 8, _ =>
          simp only [gTA, gCZ, gCS, gSI] at ho
          subst ho
          have ts : ρ (.tmp 34) = .slice a2 g.edges.length c2 := hdep 7 34 (by kernel_rfl) (by kernel_rfl)
          simp [go_sem, ts]
          exact ⟨Below.refl _ _, rfl⟩
        | 9, _ =>
          simp only [gTA, gCZ, gCS, gSI] at ho
          subst ho
          have ts : ρ (.tmp 1) = .int .i64 (k : Int) := hfr 1 (by kernel_rfl)
          simp [go_sem, ts]
          exact ⟨Below.refl _ _, rfl⟩
        | 10, _ =>
          simp only [gTA, gCZ, gCS, gSI] at ho
          subst ho
          have ts : ρ (.tmp 6) = .pointer (some ⟨w.heap.size + 1, 0, none⟩) := hfr 6 (by kernel_rfl)
          simp [go_sem, ts]
          exact ⟨Below.refl _ _, rfl⟩
        | 11, _ =>
          simp only [gTA, gCZ, gCS, gSI] at ho
          subst ho
          have ts : ρ (.tmp 37) = .pointer (some ⟨w.heap.size + 1, 1, none⟩) := hdep 10 37 (by kernel_rfl) (by kernel_rfl)
          simp [go_sem, ts, b1]
          exact ⟨Below.refl _ _, rfl⟩
        | 12, _ =>
          simp only [gTA, gCZ, gCS, gSI] at ho
          subst ho
          have ts : ρ (.tmp 6) = .pointer (some ⟨w.heap.size + 1, 0, none⟩) := hfr 6 (by kernel_rfl)
          simp [go_sem, ts]
          exact ⟨Below.refl _ _, rfl⟩
        | 13, _ =>
          simp only [gTA, gCZ, gCS, gSI] at ho
          subst ho
          have ts : ρ (.tmp 39) = .pointer (some ⟨w.heap.size + 1, 2, none⟩) := hdep 12 39 (by kernel_rfl) (by kernel_rfl)
          simp [go_sem, ts, b2]
          exact ⟨Below.refl _ _, rfl⟩
        | 14, _ =>
          simp only [gTA, gCZ, gCS, gSI] at ho
          subst ho
          have t0 : ρ (.tmp 32) = .agg #[.string (str g.name), .slice a1 g.actors.length c1, .slice a2 g.edges.length c2, .slice a3 g.ins.length c3, .slice (some ⟨b, off, none⟩) g.outs.length c4] := hdep 5 32 (by kernel_rfl) (by kernel_rfl)
          have t1 : ρ (.tmp 35) = .int .i64 (g.edges.length : Int) := hdep 8 35 (by kernel_rfl) (by kernel_rfl)
          have t2 : ρ (.tmp 36) = .int .i64 (k : Int) := hdep 9 36 (by kernel_rfl) (by kernel_rfl)
          have t3 : ρ (.tmp 38) = .int .i64 ac := hdep 11 38 (by kernel_rfl) (by kernel_rfl)
          have t4 : ρ (.tmp 40) = .int .i64 po := hdep 13 40 (by kernel_rfl) (by kernel_rfl)
          simp [go_sem, t0, t1, t2, t3, t4, hf]
          exact ⟨rfl, (TKV.out w' hb).mono fun e w'' hh => ⟨_, hh.1, hh.2, rfl⟩⟩
        | 15, _ =>
          simp only [gTA, gCZ, gCS, gSI] at ho
          subst ho
          have t0 : ρ (.tmp 27) = .agg #[.string (str g.name), .slice a1 g.actors.length c1, .slice a2 g.edges.length c2, .slice a3 g.ins.length c3, .slice (some ⟨b, off, none⟩) g.outs.length c4] := hdep 0 27 (by kernel_rfl) (by kernel_rfl)
          have t1 : ρ (.tmp 29) = .int .i64 ac := hdep 2 29 (by kernel_rfl) (by kernel_rfl)
          have t2 : ρ (.tmp 31) = .int .i64 po := hdep 4 31 (by kernel_rfl) (by kernel_rfl)
          have t3 : ρ (.tmp 41) = .bool tk := hdep 14 41 (by kernel_rfl) (by kernel_rfl)
          simp [go_sem, t0, t1, t2, t3, hf, hc]
          exact ⟨rfl, (ENV.out w' hb).mono fun e w'' hh => ⟨_, hh.1, hh.2, rfl⟩⟩
        | k + 16, h => exact absurd h (by omega)
      · intro V9 w9 q9 hS
        have e0 : V9 0 = .agg #[.string (str g.name), .slice a1 g.actors.length c1, .slice a2 g.edges.length c2, .slice a3 g.ins.length c3, .slice (some ⟨b, off, none⟩) g.outs.length c4] := hS 0 (by decide)
        have e1 : V9 1 = .pointer (some ⟨w.heap.size + 1, 1, none⟩) := hS 1 (by decide)
        have e2 : V9 2 = .int .i64 ac := hS 2 (by decide)
        have e3 : V9 3 = .pointer (some ⟨w.heap.size + 1, 2, none⟩) := hS 3 (by decide)
        have e4 : V9 4 = .int .i64 po := hS 4 (by decide)
        have e5 : V9 5 = .agg #[.string (str g.name), .slice a1 g.actors.length c1, .slice a2 g.edges.length c2, .slice a3 g.ins.length c3, .slice (some ⟨b, off, none⟩) g.outs.length c4] := hS 5 (by decide)
        have e6 : V9 6 = .pointer (some ⟨w.heap.size, 2, none⟩) := hS 6 (by decide)
        have e7 : V9 7 = .slice a2 g.edges.length c2 := hS 7 (by decide)
        have e8 : V9 8 = .int .i64 (g.edges.length : Int) := hS 8 (by decide)
        have e9 : V9 9 = .int .i64 (k : Int) := hS 9 (by decide)
        have e10 : V9 10 = .pointer (some ⟨w.heap.size + 1, 1, none⟩) := hS 10 (by decide)
        have e11 : V9 11 = .int .i64 ac := hS 11 (by decide)
        have e12 : V9 12 = .pointer (some ⟨w.heap.size + 1, 2, none⟩) := hS 12 (by decide)
        have e13 : V9 13 = .int .i64 po := hS 13 (by decide)
        have e14 : V9 14 = .bool tk := hS 14 (by decide)
        have e15 : V9 15 = .int .i64 ev := hS 15 (by decide)
        simp only [List.drop_succ_cons, List.drop_zero, List.take_succ_cons, List.take_zero, puts, e0, e1, e2, e3, e4, e5, e6, e7, e8, e9, e10, e11, e12, e13, e14, e15]
        clear hS e0 e1 e2 e3 e4 e5 e6 e7 e8 e9 e10 e11 e12 e13 e14 e15 V9
        simp only [Act.put, List.setIfInBounds_toArray, List.set_cons_zero, List.set_cons_succ]
        have B8 := hiddenG (BW.out.trans (q9.mono BW.out.size))
        clear q9
        go_wp2
        refine bodyPost_ret (v := .tuple #[.int .i64 ev, .int .i64 1]) (by simp [results, Try.results70, go_sem]) rfl ?_
        exact ⟨by rw [HC.out]; rfl, B8.out⟩
    · go_wp2_with (first
        | (go_at_call 93; (with_reducible refine (NM.out _ BV.out).mono ?_); rintro e w2 ⟨rfl, b2⟩; have B2 := hiddenG b2; clear b2)
        | (go_at_call 65; (with_reducible refine (RN.out _).mono ?_); rintro e w' ⟨rfl, rfl⟩))
      refine bodyPost_ret (v := .tuple #[.int .i64 83, .int .i64 0]) (by simp [results, Try.results70, go_sem]) rfl ?_
      exact ⟨by rw [HC.out]; rfl, BV.out.trans (B2.out.mono BV.out.size)⟩
theorem GBox.low {w u : World} {gv : Array Value} (h : GBox w gv u) : Below w.heap.size w u := h.2
theorem GBox.later {w u u' : World} {gv : Array Value} (h : GBox w gv u) (hb : Below u.heap.size u u') : GBox w gv u' := ⟨h.1.below hb, h.2.trans (hb.mono h.2.size)⟩
theorem range_yes {n k : Nat} {P : Nat → Bool} (hk : k < n) (h : P k = false) : (List.range n).any (fun p => !P p) = true := List.any_eq_true.2 ⟨k, List.mem_range.2 hk, by rw [h]; rfl⟩
theorem range_no {n : Nat} {P : Nat → Bool} (h : ∀ j, j < n → P j = true) : (List.range n).any (fun p => !P p) = false := List.any_eq_false.2 fun p hp => by rw [h p (List.mem_range.1 hp)]; decide
set_option maxRecDepth 100000 in
set_option maxHeartbeats 8000000 in
theorem open8_any (g : GG) (a1 a2 a3 a4 : Option Addr) (c1 c2 c3 c4 : Nat) (i : Nat) (w : World) (h : GrG w a1 a2 a3 a4 g) (hi : i < g.actors.length) :
    Calls Try.prog 71 #[.agg #[.string (str g.name), .slice a1 g.actors.length c1, .slice a2 g.edges.length c2, .slice a3 g.ins.length c3, .slice a4 g.outs.length c4], .int .i64 (i : Int)] w fun e w' => e = .returned (.bool (openB g i)) ∧ Below w.heap.size w w' := by
  have HG := hiddenG h
  have n2 : (g.edges.length : Int) ≤ 1000000000000000 := by have := h.l2; omega
  have n3 : (g.ins.length : Int) ≤ 1000000000000000 := by have := h.l3; omega
  have n4 : (g.outs.length : Int) ≤ 1000000000000000 := by have := h.l4; omega
  have s1 : insN g i ≤ 1024 := (of_small _ _).1
  have s2 : outsN g i ≤ 1024 := (of_small _ _).2
  have RT : Hid (∀ U, Below w.heap.size w U → Calls Try.prog 98 #[.agg #[.string (str g.name), .slice a1 g.actors.length c1, .slice a2 g.edges.length c2, .slice a3 g.ins.length c3, .slice a4 g.outs.length c4], .int .i64 (i : Int)] U fun e w' => e = .returned (.tuple #[.int .i64 (insN g i : Int), .int .i64 (outsN g i : Int)]) ∧ Below U.heap.size U w') := fun U hb => rates8_any g a1 a2 a3 a4 c1 c2 c3 c4 i U (HG.out.below hb) hi
  have IT : Hid (∀ U (p : Int), Below w.heap.size w U → Calls Try.prog 97 #[.agg #[.string (str g.name), .slice a1 g.actors.length c1, .slice a2 g.edges.length c2, .slice a3 g.ins.length c3, .slice a4 g.outs.length c4], .int .i64 (g.edges.length : Int), .int .i64 (g.ins.length : Int), .int .i64 (i : Int), .int .i64 p] U fun e w' => e = .returned (.bool (inTk g g.edges.length g.ins.length (i : Int) p)) ∧ Below U.heap.size U w') := fun U p hb => inTaken_any g a1 a2 a3 a4 c1 c2 c3 c4 _ _ _ _ U (HG.out.below hb) (Nat.le_refl _) (Nat.le_refl _)
  have OT : Hid (∀ U (p : Int), Below w.heap.size w U → Calls Try.prog 96 #[.agg #[.string (str g.name), .slice a1 g.actors.length c1, .slice a2 g.edges.length c2, .slice a3 g.ins.length c3, .slice a4 g.outs.length c4], .int .i64 (g.edges.length : Int), .int .i64 (g.outs.length : Int), .int .i64 (i : Int), .int .i64 p] U fun e w' => e = .returned (.bool (outTk g g.edges.length g.outs.length (i : Int) p)) ∧ Below U.heap.size U w') := fun U p hb => outTaken_any g a1 a2 a3 a4 c1 c2 c3 c4 _ _ _ _ U (HG.out.below hb) (Nat.le_refl _) (Nat.le_refl _)
  have HO : Hid (openB g i = ((List.range (insN g i)).any (fun p => !inTk g g.edges.length g.ins.length (i : Int) (p : Int)) || (List.range (outsN g i)).any (fun p => !outTk g g.edges.length g.outs.length (i : Int) (p : Int)))) := by rfl
  have B0 := hiddenG (gbox_new w #[.string (str g.name), .slice a1 g.actors.length c1, .slice a2 g.edges.length c2, .slice a3 g.ins.length c3, .slice a4 g.outs.length c4])
  clear h hi HG
  generalize insN g i = nI at *
  generalize outsN g i = nO at *
  generalize inTk g g.edges.length g.ins.length (i : Int) = FI at *
  generalize outTk g g.edges.length g.outs.length (i : Int) = FO at *
  go_enter Try.func71, Try.ntmps71
  go_upto_region 1 with fail
  generalize w.alloc (.cells #[.string (str g.name), .slice a1 g.actors.length c1, .slice a2 g.edges.length c2, .slice a3 g.ins.length c3, .slice a4 g.outs.length c4] 26) = W0 at *
  have g0 : W0.cell? ⟨w.heap.size, 0, none⟩ = some (.string (str g.name)) := B0.out.1.cell rfl
  have g1 : W0.cell? ⟨w.heap.size, 1, none⟩ = some (.slice a1 g.actors.length c1) := B0.out.1.cell rfl
  have g2 : W0.cell? ⟨w.heap.size, 2, none⟩ = some (.slice a2 g.edges.length c2) := B0.out.1.cell rfl
  have g3 : W0.cell? ⟨w.heap.size, 3, none⟩ = some (.slice a3 g.ins.length c3) := B0.out.1.cell rfl
  have g4 : W0.cell? ⟨w.heap.size, 4, none⟩ = some (.slice a4 g.outs.length c4) := B0.out.1.cell rfl
  go_wp2_with (go_at_call 98; (with_reducible refine (RT.out _ B0.out.low).mono ?_); rintro e w2 ⟨rfl, b2⟩; have B2 := hiddenG (B0.out.later b2); clear b2)
  clear g0 g1 g2 g3 g4 RT
  go_loopg [7] nI (fun gk v wr => ∃ k : Nat, k ≤ nI ∧ gk = nI - k ∧ v = .int .i64 (k : Int) ∧ GBox w #[.string (str g.name), .slice a1 g.actors.length c1, .slice a2 g.edges.length c2, .slice a3 g.ins.length c3, .slice a4 g.outs.length c4] wr ∧ ∀ j : Nat, j < k → FI (j : Int) = true)
  case atStart => exact ⟨0, Nat.zero_le _, rfl, rfl, B2.out, fun j hj => absurd hj (Nat.not_lt_zero _)⟩
  case round =>
    clear B2 B0
    obtain ⟨k, hk, rfl, rfl, hB, hall⟩ := hrel
    have HB := hiddenG hB
    have HAL := hiddenG hall
    have g0 : wr.cell? ⟨w.heap.size, 0, none⟩ = some (.string (str g.name)) := hB.1.cell rfl
    have g1 : wr.cell? ⟨w.heap.size, 1, none⟩ = some (.slice a1 g.actors.length c1) := hB.1.cell rfl
    have g2 : wr.cell? ⟨w.heap.size, 2, none⟩ = some (.slice a2 g.edges.length c2) := hB.1.cell rfl
    have g3 : wr.cell? ⟨w.heap.size, 3, none⟩ = some (.slice a3 g.ins.length c3) := hB.1.cell rfl
    have g4 : wr.cell? ⟨w.heap.size, 4, none⟩ = some (.slice a4 g.outs.length c4) := hB.1.cell rfl
    clear hB hall
    by_cases hlt : k < nI
    · have hki : (k : Int) < (nI : Int) := by omega
      have HYES : Hid (FI (k : Int) = false → openB g i = true) := fun e => by rw [HO.out, range_yes (P := fun p : Nat => FI (p : Int)) hlt e, Bool.true_or]
      have HNO : Hid (FI (k : Int) = true → ∀ j : Nat, j < k + 1 → FI (j : Int) = true) := fun e j hj => by
        by_cases q : j < k
        · exact HAL.out j q
        · rw [show j = k by omega]; exact e
      have CK := hiddenG (IT.out wr (k : Int) HB.out.2)
      obtain ⟨q1, hq1⟩ : ∃ q, FI (k : Int) = q := ⟨_, rfl⟩
      rw [hq1] at HYES HNO CK
      clear hq1
      cases q1
      · go_wp2_with (go_at_call 97; (with_reducible refine CK.out.mono ?_); rintro e w3 ⟨rfl, b3⟩; have B3 := hiddenG (HB.out.later b3); clear b3)
        go_ret
        exact ⟨by rw [HYES.out (by trivial)]; rfl, B3.out.2⟩
      · go_wp2_with (go_at_call 97; (with_reducible refine CK.out.mono ?_); rintro e w3 ⟨rfl, b3⟩; have B3 := hiddenG (HB.out.later b3); clear b3)
        go_roundg (nI - (k + 1))
        case measure => omega
        case rel => exact ⟨k + 1, by omega, rfl, by go_num, B3.out, HNO.out (by trivial)⟩
    · have hki : ¬ (k : Int) < (nI : Int) := by omega
      have Z0 : Hid ((List.range nI).any (fun p => !FI (p : Int)) = false) := range_no (P := fun p : Nat => FI (p : Int)) (fun j hj => HAL.out j (by omega))
      clear g0 g1 g2 g3 g4 HAL hlt hk
      go_wp2
      go_loopg [8] nO (fun gk v wr => ∃ k : Nat, k ≤ nO ∧ gk = nO - k ∧ v = .int .i64 (k : Int) ∧ GBox w #[.string (str g.name), .slice a1 g.actors.length c1, .slice a2 g.edges.length c2, .slice a3 g.ins.length c3, .slice a4 g.outs.length c4] wr ∧ ∀ j : Nat, j < k → FO (j : Int) = true)
      case atStart => exact ⟨0, Nat.zero_le _, rfl, rfl, HB.out, fun j hj => absurd hj (Nat.not_lt_zero _)⟩
      case round =>
        clear HB hki
        obtain ⟨k, hk, rfl, rfl, hB, hall⟩ := hrel
        have HB := hiddenG hB
        have HAL := hiddenG hall
        have g0 : wr.cell? ⟨w.heap.size, 0, none⟩ = some (.string (str g.name)) := hB.1.cell rfl
        have g1 : wr.cell? ⟨w.heap.size, 1, none⟩ = some (.slice a1 g.actors.length c1) := hB.1.cell rfl
        have g2 : wr.cell? ⟨w.heap.size, 2, none⟩ = some (.slice a2 g.edges.length c2) := hB.1.cell rfl
        have g3 : wr.cell? ⟨w.heap.size, 3, none⟩ = some (.slice a3 g.ins.length c3) := hB.1.cell rfl
        have g4 : wr.cell? ⟨w.heap.size, 4, none⟩ = some (.slice a4 g.outs.length c4) := hB.1.cell rfl
        clear hB hall
        by_cases hlt : k < nO
        · have hki : (k : Int) < (nO : Int) := by omega
          have HYES : Hid (FO (k : Int) = false → openB g i = true) := fun e => by rw [HO.out, Z0.out, range_yes (P := fun p : Nat => FO (p : Int)) hlt e, Bool.false_or]
          have HNO : Hid (FO (k : Int) = true → ∀ j : Nat, j < k + 1 → FO (j : Int) = true) := fun e j hj => by
            by_cases q : j < k
            · exact HAL.out j q
            · rw [show j = k by omega]; exact e
          have CK := hiddenG (OT.out wr (k : Int) HB.out.2)
          obtain ⟨q1, hq1⟩ : ∃ q, FO (k : Int) = q := ⟨_, rfl⟩
          rw [hq1] at HYES HNO CK
          clear hq1
          cases q1
          · go_wp2_with (go_at_call 96; (with_reducible refine CK.out.mono ?_); rintro e w3 ⟨rfl, b3⟩; have B3 := hiddenG (HB.out.later b3); clear b3)
            go_ret
            exact ⟨by rw [HYES.out (by trivial)]; rfl, B3.out.2⟩
          · go_wp2_with (go_at_call 96; (with_reducible refine CK.out.mono ?_); rintro e w3 ⟨rfl, b3⟩; have B3 := hiddenG (HB.out.later b3); clear b3)
            go_roundg (nO - (k + 1))
            case measure => omega
            case rel => exact ⟨k + 1, by omega, rfl, by go_num, B3.out, HNO.out (by trivial)⟩
        · have hki : ¬ (k : Int) < (nO : Int) := by omega
          have Z1 : Hid ((List.range nO).any (fun p => !FO (p : Int)) = false) := range_no (P := fun p : Nat => FO (p : Int)) (fun j hj => HAL.out j (by omega))
          have HP0 : Hid (openB g i = false) := by show _ = _; rw [HO.out, Z0.out, Z1.out]; rfl
          go_wp2
          go_ret
          exact ⟨by rw [HP0.out]; rfl, HB.out.2⟩
theorem sizX : (Try.prog.info? 68).map (·.size) = some 4 := by kernel_rfl
/-- What is wrong, and where, as the document's value. -/
def wV (f : FL) : Value := .agg #[.int .i64 f.code, .int .u8 (f.kind : Int), .int .i64 (f.number : Int), .int .i64 (f.stop : Int)]
def manyF (g : GG) : FL :=
  if 32 < g.actors.length then ⟨81, 1, 32, 0⟩ else if 96 < g.edges.length then ⟨81, 2, 96, 0⟩ else if 16 < g.ins.length then ⟨81, 3, 16, 0⟩ else if 16 < g.outs.length then ⟨81, 4, 16, 0⟩ else fl0
set_option maxRecDepth 100000 in
set_option maxHeartbeats 4000000 in
theorem many8_any (g : GG) (a1 a2 a3 a4 : Option Addr) (c1 c2 c3 c4 : Nat) (w : World) (l1 : g.actors.length ≤ 1000000000000000) (l2 : g.edges.length ≤ 1000000000000000) (l3 : g.ins.length ≤ 1000000000000000) (l4 : g.outs.length ≤ 1000000000000000) :
    Calls Try.prog 66 #[.agg #[.string (str g.name), .slice a1 g.actors.length c1, .slice a2 g.edges.length c2, .slice a3 g.ins.length c3, .slice a4 g.outs.length c4]] w fun e w' => e = .returned (wV (manyF g)) ∧ Below w.heap.size w w' := by
  have ba := ((Below.refl w.heap.size w).alloc (Nat.le_refl _) (.cells #[.string (str g.name), .slice a1 g.actors.length c1, .slice a2 g.edges.length c2, .slice a3 g.ins.length c3, .slice a4 g.outs.length c4] 26)).alloc (by simp) (.cells #[.int .i64 0, .int .u8 0, .int .i64 0, .int .i64 0] 68)
  have BA := hiddenG ba
  have gg := (blkA_new 26 w #[.string (str g.name), .slice a1 g.actors.length c1, .slice a2 g.edges.length c2, .slice a3 g.ins.length c3, .slice a4 g.outs.length c4]).below ((Below.refl _ _).alloc (Nat.le_refl _) (.cells #[.int .i64 0, .int .u8 0, .int .i64 0, .int .i64 0] 68))
  have nr : BlkA 68 (w.heap.size + 1) ((w.alloc (.cells #[.string (str g.name), .slice a1 g.actors.length c1, .slice a2 g.edges.length c2, .slice a3 g.ins.length c3, .slice a4 g.outs.length c4] 26)).alloc (.cells #[.int .i64 0, .int .u8 0, .int .i64 0, .int .i64 0] 68)) #[.int .i64 0, .int .u8 0, .int .i64 0, .int .i64 0] := by
    have h3 := blkA_new 68 (w.alloc (.cells #[.string (str g.name), .slice a1 g.actors.length c1, .slice a2 g.edges.length c2, .slice a3 g.ins.length c3, .slice a4 g.outs.length c4] 26)) #[.int .i64 0, .int .u8 0, .int .i64 0, .int .i64 0]
    rw [World.size_alloc] at h3
    exact h3
  have NR := hiddenG nr
  have x1 := gg.cell (k := 1) rfl
  have x2 := gg.cell (k := 2) rfl
  have x3 := gg.cell (k := 3) rfl
  have x4 := gg.cell (k := 4) rfl
  have HD : Hid (manyF g = if 32 < g.actors.length then ⟨81, 1, 32, 0⟩ else if 96 < g.edges.length then ⟨81, 2, 96, 0⟩ else if 16 < g.ins.length then ⟨81, 3, 16, 0⟩ else if 16 < g.outs.length then ⟨81, 4, 16, 0⟩ else fl0) := by rfl
  clear ba gg nr
  generalize g.actors.length = n1 at *
  generalize g.edges.length = n2 at *
  generalize g.ins.length = n3 at *
  generalize g.outs.length = n4 at *
  by_cases k0 : 32 < n1
  · have i0 : (n1 : Int) > 32 := by omega
    go_enter Try.func66, Try.ntmps66
    go_upto_region 1 with fail
    generalize (w.alloc (.cells #[.string (str g.name), .slice a1 n1 c1, .slice a2 n2 c2, .slice a3 n3 c3, .slice a4 n4 c4] 26)).alloc (.cells #[.int .i64 0, .int .u8 0, .int .i64 0, .int .i64 0] 68) = W0 at *
    go_wp2_with (refine wpList_storeW _ rfl 68 (.tmp 2) (.tmp 7) rfl rfl (w.heap.size + 1) 68 _ _ rfl rfl NR.out sizX rfl rfl ?_; intro w9 hN hU; have N9 := hiddenG hN; have U9 := hiddenG hU; clear hN hU)
    have z0 : w9.cell? ⟨w.heap.size + 1, 0, none⟩ = some (.int .i64 81) := N9.out.cell rfl
    have z1 : w9.cell? ⟨w.heap.size + 1, 1, none⟩ = some (.int .u8 1) := N9.out.cell rfl
    have z2 : w9.cell? ⟨w.heap.size + 1, 2, none⟩ = some (.int .i64 32) := N9.out.cell rfl
    have z3 : w9.cell? ⟨w.heap.size + 1, 3, none⟩ = some (.int .i64 0) := N9.out.cell rfl
    refine bodyPost_ret (v := .agg #[.int .i64 81, .int .u8 1, .int .i64 32, .int .i64 0]) (by simp [results, Try.results66, go_sem, z0, z1, z2, z3]) rfl ?_
    exact ⟨by rw [HD.out, if_pos k0]; rfl, BA.out.trans (U9.out.below (Nat.le_succ _) BA.out.size)⟩
  · have i0 : ¬ (n1 : Int) > 32 := by omega
    by_cases k1 : 96 < n2
    · have i1 : (n2 : Int) > 96 := by omega
      go_enter Try.func66, Try.ntmps66
      go_upto_region 1 with fail
      generalize (w.alloc (.cells #[.string (str g.name), .slice a1 n1 c1, .slice a2 n2 c2, .slice a3 n3 c3, .slice a4 n4 c4] 26)).alloc (.cells #[.int .i64 0, .int .u8 0, .int .i64 0, .int .i64 0] 68) = W0 at *
      go_wp2_with (refine wpList_storeW _ rfl 68 (.tmp 2) (.tmp 12) rfl rfl (w.heap.size + 1) 68 _ _ rfl rfl NR.out sizX rfl rfl ?_; intro w9 hN hU; have N9 := hiddenG hN; have U9 := hiddenG hU; clear hN hU)
      have z0 : w9.cell? ⟨w.heap.size + 1, 0, none⟩ = some (.int .i64 81) := N9.out.cell rfl
      have z1 : w9.cell? ⟨w.heap.size + 1, 1, none⟩ = some (.int .u8 2) := N9.out.cell rfl
      have z2 : w9.cell? ⟨w.heap.size + 1, 2, none⟩ = some (.int .i64 96) := N9.out.cell rfl
      have z3 : w9.cell? ⟨w.heap.size + 1, 3, none⟩ = some (.int .i64 0) := N9.out.cell rfl
      refine bodyPost_ret (v := .agg #[.int .i64 81, .int .u8 2, .int .i64 96, .int .i64 0]) (by simp [results, Try.results66, go_sem, z0, z1, z2, z3]) rfl ?_
      exact ⟨by rw [HD.out, if_neg k0, if_pos k1]; rfl, BA.out.trans (U9.out.below (Nat.le_succ _) BA.out.size)⟩
    · have i1 : ¬ (n2 : Int) > 96 := by omega
      by_cases k2 : 16 < n3
      · have i2 : (n3 : Int) > 16 := by omega
        go_enter Try.func66, Try.ntmps66
        go_upto_region 1 with fail
        generalize (w.alloc (.cells #[.string (str g.name), .slice a1 n1 c1, .slice a2 n2 c2, .slice a3 n3 c3, .slice a4 n4 c4] 26)).alloc (.cells #[.int .i64 0, .int .u8 0, .int .i64 0, .int .i64 0] 68) = W0 at *
        go_wp2_with (refine wpList_storeW _ rfl 68 (.tmp 2) (.tmp 17) rfl rfl (w.heap.size + 1) 68 _ _ rfl rfl NR.out sizX rfl rfl ?_; intro w9 hN hU; have N9 := hiddenG hN; have U9 := hiddenG hU; clear hN hU)
        have z0 : w9.cell? ⟨w.heap.size + 1, 0, none⟩ = some (.int .i64 81) := N9.out.cell rfl
        have z1 : w9.cell? ⟨w.heap.size + 1, 1, none⟩ = some (.int .u8 3) := N9.out.cell rfl
        have z2 : w9.cell? ⟨w.heap.size + 1, 2, none⟩ = some (.int .i64 16) := N9.out.cell rfl
        have z3 : w9.cell? ⟨w.heap.size + 1, 3, none⟩ = some (.int .i64 0) := N9.out.cell rfl
        refine bodyPost_ret (v := .agg #[.int .i64 81, .int .u8 3, .int .i64 16, .int .i64 0]) (by simp [results, Try.results66, go_sem, z0, z1, z2, z3]) rfl ?_
        exact ⟨by rw [HD.out, if_neg k0, if_neg k1, if_pos k2]; rfl, BA.out.trans (U9.out.below (Nat.le_succ _) BA.out.size)⟩
      · have i2 : ¬ (n3 : Int) > 16 := by omega
        by_cases k3 : 16 < n4
        · have i3 : (n4 : Int) > 16 := by omega
          go_enter Try.func66, Try.ntmps66
          go_upto_region 1 with fail
          generalize (w.alloc (.cells #[.string (str g.name), .slice a1 n1 c1, .slice a2 n2 c2, .slice a3 n3 c3, .slice a4 n4 c4] 26)).alloc (.cells #[.int .i64 0, .int .u8 0, .int .i64 0, .int .i64 0] 68) = W0 at *
          go_wp2_with (refine wpList_storeW _ rfl 68 (.tmp 2) (.tmp 22) rfl rfl (w.heap.size + 1) 68 _ _ rfl rfl NR.out sizX rfl rfl ?_; intro w9 hN hU; have N9 := hiddenG hN; have U9 := hiddenG hU; clear hN hU)
          have z0 : w9.cell? ⟨w.heap.size + 1, 0, none⟩ = some (.int .i64 81) := N9.out.cell rfl
          have z1 : w9.cell? ⟨w.heap.size + 1, 1, none⟩ = some (.int .u8 4) := N9.out.cell rfl
          have z2 : w9.cell? ⟨w.heap.size + 1, 2, none⟩ = some (.int .i64 16) := N9.out.cell rfl
          have z3 : w9.cell? ⟨w.heap.size + 1, 3, none⟩ = some (.int .i64 0) := N9.out.cell rfl
          refine bodyPost_ret (v := .agg #[.int .i64 81, .int .u8 4, .int .i64 16, .int .i64 0]) (by simp [results, Try.results66, go_sem, z0, z1, z2, z3]) rfl ?_
          exact ⟨by rw [HD.out, if_neg k0, if_neg k1, if_neg k2, if_pos k3]; rfl, BA.out.trans (U9.out.below (Nat.le_succ _) BA.out.size)⟩
        · have i3 : ¬ (n4 : Int) > 16 := by omega
          go_enter Try.func66, Try.ntmps66
          go_upto_region 1 with fail
          generalize (w.alloc (.cells #[.string (str g.name), .slice a1 n1 c1, .slice a2 n2 c2, .slice a3 n3 c3, .slice a4 n4 c4] 26)).alloc (.cells #[.int .i64 0, .int .u8 0, .int .i64 0, .int .i64 0] 68) = W0 at *
          go_wp2_with (refine wpList_storeW _ rfl 68 (.tmp 2) (.tmp 23) rfl rfl (w.heap.size + 1) 68 _ _ rfl rfl NR.out sizX rfl rfl ?_; intro w9 hN hU; have N9 := hiddenG hN; have U9 := hiddenG hU; clear hN hU)
          have z0 : w9.cell? ⟨w.heap.size + 1, 0, none⟩ = some (.int .i64 0) := N9.out.cell rfl
          have z1 : w9.cell? ⟨w.heap.size + 1, 1, none⟩ = some (.int .u8 0) := N9.out.cell rfl
          have z2 : w9.cell? ⟨w.heap.size + 1, 2, none⟩ = some (.int .i64 0) := N9.out.cell rfl
          have z3 : w9.cell? ⟨w.heap.size + 1, 3, none⟩ = some (.int .i64 0) := N9.out.cell rfl
          refine bodyPost_ret (v := .agg #[.int .i64 0, .int .u8 0, .int .i64 0, .int .i64 0]) (by simp [results, Try.results66, go_sem, z0, z1, z2, z3]) rfl ?_
          exact ⟨by rw [HD.out, if_neg k0, if_neg k1, if_neg k2, if_neg k3]; rfl, BA.out.trans (U9.out.below (Nat.le_succ _) BA.out.size)⟩
theorem zero_loop' {f : Nat → Int × Nat} {k : Nat} : ∀ (n i : Nat), (∀ j, i ≤ j → j < i + n → (f j).1 = 0) → loopC n i f k = fl0
  | 0, _, _ => rfl
  | n + 1, i, h => by
    have e : loopC (n + 1) i f k = if (f i).1 ≠ 0 then ⟨(f i).1, k, i, (f i).2⟩ else loopC n (i + 1) f k := rfl
    rw [e, if_neg (fun q => q (h i (Nat.le_refl _) (by omega)))]
    exact zero_loop' n (i + 1) (fun j a b => h j (by omega) (by omega))
theorem step_stop {f : Nat → Int × Nat} {k n j : Nat} {R : FL} (hj : j < n) (h : (f j).1 ≠ 0) (ha : ∀ m, m < j → (f m).1 = 0) : (if (loopC n 0 f k).code ≠ 0 then loopC n 0 f k else R) = ⟨(f j).1, k, j, (f j).2⟩ := by
  have e := loop_stop (f := f) (k := k) n 0 j (Nat.zero_le _) (by omega) h (fun m _ b => ha m b)
  rw [e, if_pos h]
theorem step_on {f : Nat → Int × Nat} {k n : Nat} {R : FL} (ha : ∀ m, m < n → (f m).1 = 0) : (if (loopC n 0 f k).code ≠ 0 then loopC n 0 f k else R) = R := by
  rw [if_neg (fun q => q (zero_loop n 0 (fun j _ b => ha j (by omega))))]
def fS5 (g : GG) : FL := loopC g.actors.length 0 (openC g) 1
def fS4 (g : GG) : FL := if (loopC g.outs.length 0 (outC g) 4).code ≠ 0 then loopC g.outs.length 0 (outC g) 4 else fS5 g
def fS3 (g : GG) : FL := if (loopC g.ins.length 0 (inC g) 3).code ≠ 0 then loopC g.ins.length 0 (inC g) 3 else fS4 g
def fS2 (g : GG) : FL := if (loopC g.edges.length 0 (edgeC g) 2).code ≠ 0 then loopC g.edges.length 0 (edgeC g) 2 else fS3 g
def fS1 (g : GG) : FL := if (loopC g.actors.length 0 (fun i => (actorC g i, 0)) 1).code ≠ 0 then loopC g.actors.length 0 (fun i => (actorC g i, 0)) 1 else fS2 g
theorem find_head (g : GG) : findS g = if (headF g).code ≠ 0 then headF g else fS1 g := rfl
theorem head_many (g : GG) : headF g = if nameB g.name = false then ⟨82, 0, 0, 0⟩ else if g.actors.length = 0 then ⟨80, 0, 0, 0⟩ else manyF g := rfl
theorem find_name {g : GG} (h : nameB g.name = false) : findS g = ⟨82, 0, 0, 0⟩ := by rw [find_head, head_many, if_pos h]; rfl
theorem find_empty {g : GG} (h : nameB g.name = true) (h0 : g.actors.length = 0) : findS g = ⟨80, 0, 0, 0⟩ := by
  have e : headF g = ⟨80, 0, 0, 0⟩ := by rw [head_many, h, if_neg (by decide), if_pos h0]
  rw [find_head, e]; rfl
theorem find_many {g : GG} (h : nameB g.name = true) (h0 : g.actors.length ≠ 0) : findS g = if (manyF g).code ≠ 0 then manyF g else fS1 g := by
  have e : headF g = manyF g := by rw [head_many, h, if_neg (by decide), if_neg h0]
  rw [find_head, e]
/-- The two boxes of Find. -/
def FBox (w : World) (gv : Array Value) (u : World) : Prop := GBox w gv u ∧ BlkA 68 (w.heap.size + 1) u #[.int .i64 0, .int .u8 0, .int .i64 0, .int .i64 0]
theorem FBox.low {w u : World} {gv : Array Value} (h : FBox w gv u) : Below w.heap.size w u := h.1.2
theorem FBox.later {w u u' : World} {gv : Array Value} (h : FBox w gv u) (hb : Below u.heap.size u u') : FBox w gv u' := ⟨h.1.later hb, h.2.below hb⟩
theorem fbox_new (w : World) (gv : Array Value) : FBox w gv ((w.alloc (.cells gv 26)).alloc (.cells #[.int .i64 0, .int .u8 0, .int .i64 0, .int .i64 0] 68)) := by
  refine ⟨(gbox_new w gv).later ((Below.refl _ _).alloc (Nat.le_refl _) _), ?_⟩
  have h3 := blkA_new 68 (w.alloc (.cells gv 26)) #[.int .i64 0, .int .u8 0, .int .i64 0, .int .i64 0]
  rw [World.size_alloc] at h3
  exact h3
set_option maxRecDepth 100000 in
set_option maxHeartbeats 8000000 in
theorem find8_any (g : GG) (a1 a2 a3 a4 : Option Addr) (c1 c2 c3 c4 : Nat) (w : World) (h : GrG w a1 a2 a3 a4 g) :
    Calls Try.prog 35 #[.agg #[.string (str g.name), .slice a1 g.actors.length c1, .slice a2 g.edges.length c2, .slice a3 g.ins.length c3, .slice a4 g.outs.length c4]] w fun e w' => e = .returned (wV (findS g)) ∧ Below w.heap.size w w' := by
  have HG := hiddenG h
  have n1 : (g.actors.length : Int) ≤ 1000000000000000 := by have := h.l1; omega
  have n2 : (g.edges.length : Int) ≤ 1000000000000000 := by have := h.l2; omega
  have n3 : (g.ins.length : Int) ≤ 1000000000000000 := by have := h.l3; omega
  have n4 : (g.outs.length : Int) ≤ 1000000000000000 := by have := h.l4; omega
  have RN : Hid (∀ U, Calls Try.prog 65 #[.string (str g.name)] U fun e w' => e = .returned (.bool (nameB g.name)) ∧ U = w') := fun U => rname_any _ U
  have MN0 : ∀ U, Calls Try.prog 66 #[.agg #[.string (str g.name), .slice a1 g.actors.length c1, .slice a2 g.edges.length c2, .slice a3 g.ins.length c3, .slice a4 g.outs.length c4]] U fun e w' => e = .returned (wV (manyF g)) ∧ Below U.heap.size U w' := fun U => many8_any g a1 a2 a3 a4 c1 c2 c3 c4 U h.l1 h.l2 h.l3 h.l4
  have Cactor : Hid (∀ U (k : Nat), Below w.heap.size w U → k < g.actors.length → Calls Try.prog 67 #[.agg #[.string (str g.name), .slice a1 g.actors.length c1, .slice a2 g.edges.length c2, .slice a3 g.ins.length c3, .slice a4 g.outs.length c4], .int .i64 (k : Int)] U fun e w' => e = .returned (.int .i64 (actorC g k)) ∧ Below U.heap.size U w') := fun U k hb hk => actor8_any g a1 a2 a3 a4 c1 c2 c3 c4 k U (HG.out.below hb) hk
  have Cedge : Hid (∀ U (k : Nat), Below w.heap.size w U → k < g.edges.length → Calls Try.prog 68 #[.agg #[.string (str g.name), .slice a1 g.actors.length c1, .slice a2 g.edges.length c2, .slice a3 g.ins.length c3, .slice a4 g.outs.length c4], .int .i64 (k : Int)] U fun e w' => e = .returned (.tuple #[.int .i64 (edgeC g k).1, .int .i64 ((edgeC g k).2 : Int)]) ∧ Below U.heap.size U w') := fun U k hb hk => edge8_any g a1 a2 a3 a4 c1 c2 c3 c4 k U (HG.out.below hb) hk
  have Cin : Hid (∀ U (k : Nat), Below w.heap.size w U → k < g.ins.length → Calls Try.prog 69 #[.agg #[.string (str g.name), .slice a1 g.actors.length c1, .slice a2 g.edges.length c2, .slice a3 g.ins.length c3, .slice a4 g.outs.length c4], .int .i64 (k : Int)] U fun e w' => e = .returned (.tuple #[.int .i64 (inC g k).1, .int .i64 ((inC g k).2 : Int)]) ∧ Below U.heap.size U w') := fun U k hb hk => in8_any g a1 a2 a3 a4 c1 c2 c3 c4 k U (HG.out.below hb) hk
  have Cout : Hid (∀ U (k : Nat), Below w.heap.size w U → k < g.outs.length → Calls Try.prog 70 #[.agg #[.string (str g.name), .slice a1 g.actors.length c1, .slice a2 g.edges.length c2, .slice a3 g.ins.length c3, .slice a4 g.outs.length c4], .int .i64 (k : Int)] U fun e w' => e = .returned (.tuple #[.int .i64 (outC g k).1, .int .i64 ((outC g k).2 : Int)]) ∧ Below U.heap.size U w') := fun U k hb hk => out8_any g a1 a2 a3 a4 c1 c2 c3 c4 k U (HG.out.below hb) hk
  have Copen : Hid (∀ U (k : Nat), Below w.heap.size w U → k < g.actors.length → Calls Try.prog 71 #[.agg #[.string (str g.name), .slice a1 g.actors.length c1, .slice a2 g.edges.length c2, .slice a3 g.ins.length c3, .slice a4 g.outs.length c4], .int .i64 (k : Int)] U fun e w' => e = .returned (.bool (openB g k)) ∧ Below U.heap.size U w') := fun U k hb hk => open8_any g a1 a2 a3 a4 c1 c2 c3 c4 k U (HG.out.below hb) hk
  have B0 := hiddenG (fbox_new w #[.string (str g.name), .slice a1 g.actors.length c1, .slice a2 g.edges.length c2, .slice a3 g.ins.length c3, .slice a4 g.outs.length c4])
  have FN : Hid (nameB g.name = false → findS g = ⟨82, 0, 0, 0⟩) := find_name
  have FE : Hid (nameB g.name = true → g.actors.length = 0 → findS g = ⟨80, 0, 0, 0⟩) := find_empty
  have FM : Hid (nameB g.name = true → g.actors.length ≠ 0 → findS g = if (manyF g).code ≠ 0 then manyF g else fS1 g) := find_many
  clear h HG
  generalize nameB g.name = q0 at *
  cases q0
  · have F0 : Hid (findS g = ⟨82, 0, 0, 0⟩) := FN.out rfl
    clear FN FE FM MN0
    go_enter Try.func35, Try.ntmps35
    go_upto_region 1 with fail
    generalize (w.alloc (.cells #[.string (str g.name), .slice a1 g.actors.length c1, .slice a2 g.edges.length c2, .slice a3 g.ins.length c3, .slice a4 g.outs.length c4] 26)).alloc (.cells #[.int .i64 0, .int .u8 0, .int .i64 0, .int .i64 0] 68) = W0 at *
    have g0 : W0.cell? ⟨w.heap.size, 0, none⟩ = some (.string (str g.name)) := B0.out.1.1.cell rfl
    have g1 : W0.cell? ⟨w.heap.size, 1, none⟩ = some (.slice a1 g.actors.length c1) := B0.out.1.1.cell rfl
    have g2 : W0.cell? ⟨w.heap.size, 2, none⟩ = some (.slice a2 g.edges.length c2) := B0.out.1.1.cell rfl
    have g3 : W0.cell? ⟨w.heap.size, 3, none⟩ = some (.slice a3 g.ins.length c3) := B0.out.1.1.cell rfl
    have g4 : W0.cell? ⟨w.heap.size, 4, none⟩ = some (.slice a4 g.outs.length c4) := B0.out.1.1.cell rfl
    go_wp2_with (first
      | (refine wpList_storeW _ rfl 68 (.tmp 2) (.tmp 20) rfl rfl (w.heap.size + 1) 68 _ _ rfl rfl B0.out.2 sizX rfl rfl ?_; intro w9 hN hU; have N9 := hiddenG hN; have U9 := hiddenG hU; clear hN hU)
      | (go_at_call 65; (with_reducible refine (RN.out _).mono ?_); rintro e w' ⟨rfl, rfl⟩))
    have z0 : w9.cell? ⟨w.heap.size + 1, 0, none⟩ = some (.int .i64 82) := N9.out.cell rfl
    have z1 : w9.cell? ⟨w.heap.size + 1, 1, none⟩ = some (.int .u8 0) := N9.out.cell rfl
    have z2 : w9.cell? ⟨w.heap.size + 1, 2, none⟩ = some (.int .i64 0) := N9.out.cell rfl
    have z3 : w9.cell? ⟨w.heap.size + 1, 3, none⟩ = some (.int .i64 0) := N9.out.cell rfl
    refine bodyPost_ret (v := .agg #[.int .i64 82, .int .u8 0, .int .i64 0, .int .i64 0]) (by simp [results, Try.results35, go_sem, z0, z1, z2, z3]) rfl ?_
    exact ⟨by rw [F0.out]; rfl, B0.out.low.trans (U9.out.below (Nat.le_succ _) B0.out.low.size)⟩
  by_cases hz : g.actors.length = 0
  · have F0 : Hid (findS g = ⟨80, 0, 0, 0⟩) := FE.out rfl hz
    have j0 : ((g.actors.length : Int) == 0) = true := by simpa using hz
    clear FN FE FM MN0 hz
    go_enter Try.func35, Try.ntmps35
    go_upto_region 1 with fail
    generalize (w.alloc (.cells #[.string (str g.name), .slice a1 g.actors.length c1, .slice a2 g.edges.length c2, .slice a3 g.ins.length c3, .slice a4 g.outs.length c4] 26)).alloc (.cells #[.int .i64 0, .int .u8 0, .int .i64 0, .int .i64 0] 68) = W0 at *
    have g0 : W0.cell? ⟨w.heap.size, 0, none⟩ = some (.string (str g.name)) := B0.out.1.1.cell rfl
    have g1 : W0.cell? ⟨w.heap.size, 1, none⟩ = some (.slice a1 g.actors.length c1) := B0.out.1.1.cell rfl
    have g2 : W0.cell? ⟨w.heap.size, 2, none⟩ = some (.slice a2 g.edges.length c2) := B0.out.1.1.cell rfl
    have g3 : W0.cell? ⟨w.heap.size, 3, none⟩ = some (.slice a3 g.ins.length c3) := B0.out.1.1.cell rfl
    have g4 : W0.cell? ⟨w.heap.size, 4, none⟩ = some (.slice a4 g.outs.length c4) := B0.out.1.1.cell rfl
    go_wp2_with (first
      | (refine wpList_storeW _ rfl 68 (.tmp 2) (.tmp 25) rfl rfl (w.heap.size + 1) 68 _ _ rfl rfl B0.out.2 sizX rfl rfl ?_; intro w9 hN hU; have N9 := hiddenG hN; have U9 := hiddenG hU; clear hN hU)
      | (go_at_call 65; (with_reducible refine (RN.out _).mono ?_); rintro e w' ⟨rfl, rfl⟩))
    have z0 : w9.cell? ⟨w.heap.size + 1, 0, none⟩ = some (.int .i64 80) := N9.out.cell rfl
    have z1 : w9.cell? ⟨w.heap.size + 1, 1, none⟩ = some (.int .u8 0) := N9.out.cell rfl
    have z2 : w9.cell? ⟨w.heap.size + 1, 2, none⟩ = some (.int .i64 0) := N9.out.cell rfl
    have z3 : w9.cell? ⟨w.heap.size + 1, 3, none⟩ = some (.int .i64 0) := N9.out.cell rfl
    refine bodyPost_ret (v := .agg #[.int .i64 80, .int .u8 0, .int .i64 0, .int .i64 0]) (by simp [results, Try.results35, go_sem, z0, z1, z2, z3]) rfl ?_
    exact ⟨by rw [F0.out]; rfl, B0.out.low.trans (U9.out.below (Nat.le_succ _) B0.out.low.size)⟩
  have j0 : ((g.actors.length : Int) == 0) = false := by simpa using hz
  have F1 : Hid (findS g = if (manyF g).code ≠ 0 then manyF g else fS1 g) := FM.out rfl hz
  obtain ⟨mf, hmf⟩ : ∃ q, manyF g = q := ⟨_, rfl⟩
  rw [hmf] at F1 MN0
  clear hmf FN FE FM hz
  obtain ⟨mc, mk, mn, ms⟩ := mf
  have MN : Hid (∀ U, Calls Try.prog 66 #[.agg #[.string (str g.name), .slice a1 g.actors.length c1, .slice a2 g.edges.length c2, .slice a3 g.ins.length c3, .slice a4 g.outs.length c4]] U fun e w' => e = .returned (.agg #[.int .i64 mc, .int .u8 (mk : Int), .int .i64 (mn : Int), .int .i64 (ms : Int)]) ∧ Below U.heap.size U w') := MN0
  clear MN0
  have FY : Hid (mc ≠ 0 → findS g = ⟨mc, mk, mn, ms⟩) := fun e => by rw [F1.out, if_pos e]
  have FO : Hid (mc = 0 → findS g = fS1 g) := fun e => by rw [F1.out, if_neg (fun q => q e)]
  clear F1
  go_enter Try.func35, Try.ntmps35
  go_upto_region 1 with fail
  generalize (w.alloc (.cells #[.string (str g.name), .slice a1 g.actors.length c1, .slice a2 g.edges.length c2, .slice a3 g.ins.length c3, .slice a4 g.outs.length c4] 26)).alloc (.cells #[.int .i64 0, .int .u8 0, .int .i64 0, .int .i64 0] 68) = W0 at *
  have g0 : W0.cell? ⟨w.heap.size, 0, none⟩ = some (.string (str g.name)) := B0.out.1.1.cell rfl
  have g1 : W0.cell? ⟨w.heap.size, 1, none⟩ = some (.slice a1 g.actors.length c1) := B0.out.1.1.cell rfl
  have g2 : W0.cell? ⟨w.heap.size, 2, none⟩ = some (.slice a2 g.edges.length c2) := B0.out.1.1.cell rfl
  have g3 : W0.cell? ⟨w.heap.size, 3, none⟩ = some (.slice a3 g.ins.length c3) := B0.out.1.1.cell rfl
  have g4 : W0.cell? ⟨w.heap.size, 4, none⟩ = some (.slice a4 g.outs.length c4) := B0.out.1.1.cell rfl
  go_upto_region 6 with (first
    | (go_at_call 66; (with_reducible refine (MN.out _).mono ?_); rintro e w1 ⟨rfl, b1⟩; have B1 := hiddenG (B0.out.later b1); clear b1)
    | (go_at_call 65; (with_reducible refine (RN.out _).mono ?_); rintro e w' ⟨rfl, rfl⟩))
  have BX := hiddenG (blkA_new 68 w1 #[.int .i64 mc, .int .u8 (mk : Int), .int .i64 (mn : Int), .int .i64 (ms : Int)])
  have B2 := hiddenG (B1.out.later ((Below.refl _ _).alloc (Nat.le_refl _) (.cells #[.int .i64 mc, .int .u8 (mk : Int), .int .i64 (mn : Int), .int .i64 (ms : Int)] 68)))
  generalize w1.alloc (.cells #[.int .i64 mc, .int .u8 (mk : Int), .int .i64 (mn : Int), .int .i64 (ms : Int)] 68) = V at *
  have m0 := BX.out.cell (k := 0) rfl
  have m1 := BX.out.cell (k := 1) rfl
  have m2 := BX.out.cell (k := 2) rfl
  have m3 := BX.out.cell (k := 3) rfl
  clear g0 g1 g2 g3 g4 BX MN RN j0
  by_cases hm : mc = 0
  · subst hm
    have FS1 : Hid (findS g = fS1 g) := FO.out rfl
    clear FO FY
    go_wp2
    clear m0 m1 m2 m3
    go_loopg [4] g.actors.length (fun gk v wr => ∃ k : Nat, k ≤ g.actors.length ∧ gk = g.actors.length - k ∧ v = .int .i64 (k : Int) ∧ FBox w #[.string (str g.name), .slice a1 g.actors.length c1, .slice a2 g.edges.length c2, .slice a3 g.ins.length c3, .slice a4 g.outs.length c4] wr ∧ ∀ j : Nat, j < k → ((fun i => (actorC g i, 0)) j).1 = 0)
    case atStart => exact ⟨0, Nat.zero_le _, rfl, rfl, B2.out, fun j hj => absurd hj (Nat.not_lt_zero _)⟩
    case round =>
      clear B2 B1 B0
      obtain ⟨k, hk, rfl, rfl, hB, hall⟩ := hrel
      have HB := hiddenG hB
      have HAL := hiddenG hall
      have g0 : wr.cell? ⟨w.heap.size, 0, none⟩ = some (.string (str g.name)) := hB.1.1.cell rfl
      have g1 : wr.cell? ⟨w.heap.size, 1, none⟩ = some (.slice a1 g.actors.length c1) := hB.1.1.cell rfl
      have g2 : wr.cell? ⟨w.heap.size, 2, none⟩ = some (.slice a2 g.edges.length c2) := hB.1.1.cell rfl
      have g3 : wr.cell? ⟨w.heap.size, 3, none⟩ = some (.slice a3 g.ins.length c3) := hB.1.1.cell rfl
      have g4 : wr.cell? ⟨w.heap.size, 4, none⟩ = some (.slice a4 g.outs.length c4) := hB.1.1.cell rfl
      clear hB hall
      by_cases hlt : k < g.actors.length
      · have hki : (k : Int) < (g.actors.length : Int) := by omega
        have HNO : Hid (((fun i => (actorC g i, 0)) k).1 = 0 → ∀ j : Nat, j < k + 1 → ((fun i => (actorC g i, 0)) j).1 = 0) := fun e j hj => by
          by_cases q : j < k
          · exact HAL.out j q
          · rw [show j = k by omega]; exact e
        have CK := hiddenG (Cactor.out wr k HB.out.low hlt)
        have HYES : Hid (((fun i => (actorC g i, 0)) k).1 ≠ 0 → findS g = ⟨((fun i => (actorC g i, 0)) k).1, 1, k, ((fun i => (actorC g i, 0)) k).2⟩) := fun e => by rw [FS1.out]; unfold fS1; rw [step_stop hlt e HAL.out]
        obtain ⟨q1, hq1⟩ : ∃ q, actorC g k = q := ⟨_, rfl⟩
        simp only [hq1] at HYES HNO CK
        clear hq1
        by_cases hc : q1 = 0
        · subst hc
          clear HYES
          go_wp2_with (go_at_call 67; (with_reducible refine CK.out.mono ?_); rintro e w3 ⟨rfl, b3⟩; have B3 := hiddenG (HB.out.later b3); clear b3)
          go_roundg (g.actors.length - (k + 1))
          case measure => omega
          case rel => exact ⟨k + 1, by omega, rfl, by go_num, B3.out, HNO.out (by trivial)⟩
        · have hc2 : (q1 != 0) = true := by simpa using hc
          have F3 := hiddenG (HYES.out hc)
          clear HYES HNO
          go_wp2_with (first
            | (refine wpList_storeW _ rfl 68 (.tmp 2) (.tmp 46) rfl rfl (w.heap.size + 1) 68 _ _ rfl rfl B3.out.2 sizX rfl rfl ?_; intro w9 hN hU; have N9 := hiddenG hN; have U9 := hiddenG hU; clear hN hU)
            | (go_at_call 67; (with_reducible refine CK.out.mono ?_); rintro e w3 ⟨rfl, b3⟩; have B3 := hiddenG (HB.out.later b3); clear b3))
          have z0 : w9.cell? ⟨w.heap.size + 1, 0, none⟩ = some (.int .i64 q1) := N9.out.cell rfl
          have z1 : w9.cell? ⟨w.heap.size + 1, 1, none⟩ = some (.int .u8 1) := N9.out.cell rfl
          have z2 : w9.cell? ⟨w.heap.size + 1, 2, none⟩ = some (.int .i64 (k : Int)) := N9.out.cell rfl
          have z3 : w9.cell? ⟨w.heap.size + 1, 3, none⟩ = some (.int .i64 0) := N9.out.cell rfl
          refine bodyPost_ret (v := .agg #[.int .i64 q1, .int .u8 1, .int .i64 (k : Int), .int .i64 0]) (by simp [results, Try.results35, go_sem, z0, z1, z2, z3]) rfl ?_
          exact ⟨by rw [F3.out]; rfl, B3.out.low.trans (U9.out.below (Nat.le_succ _) B3.out.low.size)⟩
      · have hki : ¬ (k : Int) < (g.actors.length : Int) := by omega
        have FS2 : Hid (findS g = fS2 g) := by show _ = _; rw [FS1.out]; unfold fS1; rw [step_on (fun m b => HAL.out m (by omega))]
        clear HAL hlt hk FS1
        go_wp2
        clear g0 g1 g2 g3 g4
        go_loopg [6] g.edges.length (fun gk v wr => ∃ k : Nat, k ≤ g.edges.length ∧ gk = g.edges.length - k ∧ v = .int .i64 (k : Int) ∧ FBox w #[.string (str g.name), .slice a1 g.actors.length c1, .slice a2 g.edges.length c2, .slice a3 g.ins.length c3, .slice a4 g.outs.length c4] wr ∧ ∀ j : Nat, j < k → ((edgeC g) j).1 = 0)
        case atStart => exact ⟨0, Nat.zero_le _, rfl, rfl, HB.out, fun j hj => absurd hj (Nat.not_lt_zero _)⟩
        case round =>
          clear HB hki
          obtain ⟨k, hk, rfl, rfl, hB, hall⟩ := hrel
          have HB := hiddenG hB
          have HAL := hiddenG hall
          have g0 : wr.cell? ⟨w.heap.size, 0, none⟩ = some (.string (str g.name)) := hB.1.1.cell rfl
          have g1 : wr.cell? ⟨w.heap.size, 1, none⟩ = some (.slice a1 g.actors.length c1) := hB.1.1.cell rfl
          have g2 : wr.cell? ⟨w.heap.size, 2, none⟩ = some (.slice a2 g.edges.length c2) := hB.1.1.cell rfl
          have g3 : wr.cell? ⟨w.heap.size, 3, none⟩ = some (.slice a3 g.ins.length c3) := hB.1.1.cell rfl
          have g4 : wr.cell? ⟨w.heap.size, 4, none⟩ = some (.slice a4 g.outs.length c4) := hB.1.1.cell rfl
          clear hB hall
          by_cases hlt : k < g.edges.length
          · have hki : (k : Int) < (g.edges.length : Int) := by omega
            have HNO : Hid (((edgeC g) k).1 = 0 → ∀ j : Nat, j < k + 1 → ((edgeC g) j).1 = 0) := fun e j hj => by
              by_cases q : j < k
              · exact HAL.out j q
              · rw [show j = k by omega]; exact e
            have CK := hiddenG (Cedge.out wr k HB.out.low hlt)
            have HYES : Hid (((edgeC g) k).1 ≠ 0 → findS g = ⟨((edgeC g) k).1, 2, k, ((edgeC g) k).2⟩) := fun e => by rw [FS2.out]; unfold fS2; rw [step_stop hlt e HAL.out]
            obtain ⟨q1, hq1⟩ : ∃ q, edgeC g k = q := ⟨_, rfl⟩
            simp only [hq1] at HYES HNO CK
            clear hq1
            obtain ⟨q1, sx⟩ := q1
            simp only at HYES HNO CK
            by_cases hc : q1 = 0
            · subst hc
              clear HYES
              go_wp2_with (go_at_call 68; (with_reducible refine CK.out.mono ?_); rintro e w3 ⟨rfl, b3⟩; have B3 := hiddenG (HB.out.later b3); clear b3)
              go_roundg (g.edges.length - (k + 1))
              case measure => omega
              case rel => exact ⟨k + 1, by omega, rfl, by go_num, B3.out, HNO.out (by trivial)⟩
            · have hc2 : (q1 != 0) = true := by simpa using hc
              have F3 := hiddenG (HYES.out hc)
              clear HYES HNO
              go_wp2_with (first
                | (refine wpList_storeW _ rfl 68 (.tmp 2) (.tmp 65) rfl rfl (w.heap.size + 1) 68 _ _ rfl rfl B3.out.2 sizX rfl rfl ?_; intro w9 hN hU; have N9 := hiddenG hN; have U9 := hiddenG hU; clear hN hU)
                | (go_at_call 68; (with_reducible refine CK.out.mono ?_); rintro e w3 ⟨rfl, b3⟩; have B3 := hiddenG (HB.out.later b3); clear b3))
              have z0 : w9.cell? ⟨w.heap.size + 1, 0, none⟩ = some (.int .i64 q1) := N9.out.cell rfl
              have z1 : w9.cell? ⟨w.heap.size + 1, 1, none⟩ = some (.int .u8 2) := N9.out.cell rfl
              have z2 : w9.cell? ⟨w.heap.size + 1, 2, none⟩ = some (.int .i64 (k : Int)) := N9.out.cell rfl
              have z3 : w9.cell? ⟨w.heap.size + 1, 3, none⟩ = some (.int .i64 (sx : Int)) := N9.out.cell rfl
              refine bodyPost_ret (v := .agg #[.int .i64 q1, .int .u8 2, .int .i64 (k : Int), .int .i64 (sx : Int)]) (by simp [results, Try.results35, go_sem, z0, z1, z2, z3]) rfl ?_
              exact ⟨by rw [F3.out]; rfl, B3.out.low.trans (U9.out.below (Nat.le_succ _) B3.out.low.size)⟩
          · have hki : ¬ (k : Int) < (g.edges.length : Int) := by omega
            have FS3 : Hid (findS g = fS3 g) := by show _ = _; rw [FS2.out]; unfold fS2; rw [step_on (fun m b => HAL.out m (by omega))]
            clear HAL hlt hk FS2
            go_wp2
            clear g0 g1 g2 g3 g4
            go_loopg [9] g.ins.length (fun gk v wr => ∃ k : Nat, k ≤ g.ins.length ∧ gk = g.ins.length - k ∧ v = .int .i64 (k : Int) ∧ FBox w #[.string (str g.name), .slice a1 g.actors.length c1, .slice a2 g.edges.length c2, .slice a3 g.ins.length c3, .slice a4 g.outs.length c4] wr ∧ ∀ j : Nat, j < k → ((inC g) j).1 = 0)
            case atStart => exact ⟨0, Nat.zero_le _, rfl, rfl, HB.out, fun j hj => absurd hj (Nat.not_lt_zero _)⟩
            case round =>
              clear HB hki
              obtain ⟨k, hk, rfl, rfl, hB, hall⟩ := hrel
              have HB := hiddenG hB
              have HAL := hiddenG hall
              have g0 : wr.cell? ⟨w.heap.size, 0, none⟩ = some (.string (str g.name)) := hB.1.1.cell rfl
              have g1 : wr.cell? ⟨w.heap.size, 1, none⟩ = some (.slice a1 g.actors.length c1) := hB.1.1.cell rfl
              have g2 : wr.cell? ⟨w.heap.size, 2, none⟩ = some (.slice a2 g.edges.length c2) := hB.1.1.cell rfl
              have g3 : wr.cell? ⟨w.heap.size, 3, none⟩ = some (.slice a3 g.ins.length c3) := hB.1.1.cell rfl
              have g4 : wr.cell? ⟨w.heap.size, 4, none⟩ = some (.slice a4 g.outs.length c4) := hB.1.1.cell rfl
              clear hB hall
              by_cases hlt : k < g.ins.length
              · have hki : (k : Int) < (g.ins.length : Int) := by omega
                have HNO : Hid (((inC g) k).1 = 0 → ∀ j : Nat, j < k + 1 → ((inC g) j).1 = 0) := fun e j hj => by
                  by_cases q : j < k
                  · exact HAL.out j q
                  · rw [show j = k by omega]; exact e
                have CK := hiddenG (Cin.out wr k HB.out.low hlt)
                have HYES : Hid (((inC g) k).1 ≠ 0 → findS g = ⟨((inC g) k).1, 3, k, ((inC g) k).2⟩) := fun e => by rw [FS3.out]; unfold fS3; rw [step_stop hlt e HAL.out]
                obtain ⟨q1, hq1⟩ : ∃ q, inC g k = q := ⟨_, rfl⟩
                simp only [hq1] at HYES HNO CK
                clear hq1
                obtain ⟨q1, sx⟩ := q1
                simp only at HYES HNO CK
                by_cases hc : q1 = 0
                · subst hc
                  clear HYES
                  go_wp2_with (go_at_call 69; (with_reducible refine CK.out.mono ?_); rintro e w3 ⟨rfl, b3⟩; have B3 := hiddenG (HB.out.later b3); clear b3)
                  go_roundg (g.ins.length - (k + 1))
                  case measure => omega
                  case rel => exact ⟨k + 1, by omega, rfl, by go_num, B3.out, HNO.out (by trivial)⟩
                · have hc2 : (q1 != 0) = true := by simpa using hc
                  have F3 := hiddenG (HYES.out hc)
                  clear HYES HNO
                  go_wp2_with (first
                    | (refine wpList_storeW _ rfl 68 (.tmp 2) (.tmp 84) rfl rfl (w.heap.size + 1) 68 _ _ rfl rfl B3.out.2 sizX rfl rfl ?_; intro w9 hN hU; have N9 := hiddenG hN; have U9 := hiddenG hU; clear hN hU)
                    | (go_at_call 69; (with_reducible refine CK.out.mono ?_); rintro e w3 ⟨rfl, b3⟩; have B3 := hiddenG (HB.out.later b3); clear b3))
                  have z0 : w9.cell? ⟨w.heap.size + 1, 0, none⟩ = some (.int .i64 q1) := N9.out.cell rfl
                  have z1 : w9.cell? ⟨w.heap.size + 1, 1, none⟩ = some (.int .u8 3) := N9.out.cell rfl
                  have z2 : w9.cell? ⟨w.heap.size + 1, 2, none⟩ = some (.int .i64 (k : Int)) := N9.out.cell rfl
                  have z3 : w9.cell? ⟨w.heap.size + 1, 3, none⟩ = some (.int .i64 (sx : Int)) := N9.out.cell rfl
                  refine bodyPost_ret (v := .agg #[.int .i64 q1, .int .u8 3, .int .i64 (k : Int), .int .i64 (sx : Int)]) (by simp [results, Try.results35, go_sem, z0, z1, z2, z3]) rfl ?_
                  exact ⟨by rw [F3.out]; rfl, B3.out.low.trans (U9.out.below (Nat.le_succ _) B3.out.low.size)⟩
              · have hki : ¬ (k : Int) < (g.ins.length : Int) := by omega
                have FS4 : Hid (findS g = fS4 g) := by show _ = _; rw [FS3.out]; unfold fS3; rw [step_on (fun m b => HAL.out m (by omega))]
                clear HAL hlt hk FS3
                go_wp2
                clear g0 g1 g2 g3 g4
                go_loopg [12] g.outs.length (fun gk v wr => ∃ k : Nat, k ≤ g.outs.length ∧ gk = g.outs.length - k ∧ v = .int .i64 (k : Int) ∧ FBox w #[.string (str g.name), .slice a1 g.actors.length c1, .slice a2 g.edges.length c2, .slice a3 g.ins.length c3, .slice a4 g.outs.length c4] wr ∧ ∀ j : Nat, j < k → ((outC g) j).1 = 0)
                case atStart => exact ⟨0, Nat.zero_le _, rfl, rfl, HB.out, fun j hj => absurd hj (Nat.not_lt_zero _)⟩
                case round =>
                  clear HB hki
                  obtain ⟨k, hk, rfl, rfl, hB, hall⟩ := hrel
                  have HB := hiddenG hB
                  have HAL := hiddenG hall
                  have g0 : wr.cell? ⟨w.heap.size, 0, none⟩ = some (.string (str g.name)) := hB.1.1.cell rfl
                  have g1 : wr.cell? ⟨w.heap.size, 1, none⟩ = some (.slice a1 g.actors.length c1) := hB.1.1.cell rfl
                  have g2 : wr.cell? ⟨w.heap.size, 2, none⟩ = some (.slice a2 g.edges.length c2) := hB.1.1.cell rfl
                  have g3 : wr.cell? ⟨w.heap.size, 3, none⟩ = some (.slice a3 g.ins.length c3) := hB.1.1.cell rfl
                  have g4 : wr.cell? ⟨w.heap.size, 4, none⟩ = some (.slice a4 g.outs.length c4) := hB.1.1.cell rfl
                  clear hB hall
                  by_cases hlt : k < g.outs.length
                  · have hki : (k : Int) < (g.outs.length : Int) := by omega
                    have HNO : Hid (((outC g) k).1 = 0 → ∀ j : Nat, j < k + 1 → ((outC g) j).1 = 0) := fun e j hj => by
                      by_cases q : j < k
                      · exact HAL.out j q
                      · rw [show j = k by omega]; exact e
                    have CK := hiddenG (Cout.out wr k HB.out.low hlt)
                    have HYES : Hid (((outC g) k).1 ≠ 0 → findS g = ⟨((outC g) k).1, 4, k, ((outC g) k).2⟩) := fun e => by rw [FS4.out]; unfold fS4; rw [step_stop hlt e HAL.out]
                    obtain ⟨q1, hq1⟩ : ∃ q, outC g k = q := ⟨_, rfl⟩
                    simp only [hq1] at HYES HNO CK
                    clear hq1
                    obtain ⟨q1, sx⟩ := q1
                    simp only at HYES HNO CK
                    by_cases hc : q1 = 0
                    · subst hc
                      clear HYES
                      go_wp2_with (go_at_call 70; (with_reducible refine CK.out.mono ?_); rintro e w3 ⟨rfl, b3⟩; have B3 := hiddenG (HB.out.later b3); clear b3)
                      go_roundg (g.outs.length - (k + 1))
                      case measure => omega
                      case rel => exact ⟨k + 1, by omega, rfl, by go_num, B3.out, HNO.out (by trivial)⟩
                    · have hc2 : (q1 != 0) = true := by simpa using hc
                      have F3 := hiddenG (HYES.out hc)
                      clear HYES HNO
                      go_wp2_with (first
                        | (refine wpList_storeW _ rfl 68 (.tmp 2) (.tmp 103) rfl rfl (w.heap.size + 1) 68 _ _ rfl rfl B3.out.2 sizX rfl rfl ?_; intro w9 hN hU; have N9 := hiddenG hN; have U9 := hiddenG hU; clear hN hU)
                        | (go_at_call 70; (with_reducible refine CK.out.mono ?_); rintro e w3 ⟨rfl, b3⟩; have B3 := hiddenG (HB.out.later b3); clear b3))
                      have z0 : w9.cell? ⟨w.heap.size + 1, 0, none⟩ = some (.int .i64 q1) := N9.out.cell rfl
                      have z1 : w9.cell? ⟨w.heap.size + 1, 1, none⟩ = some (.int .u8 4) := N9.out.cell rfl
                      have z2 : w9.cell? ⟨w.heap.size + 1, 2, none⟩ = some (.int .i64 (k : Int)) := N9.out.cell rfl
                      have z3 : w9.cell? ⟨w.heap.size + 1, 3, none⟩ = some (.int .i64 (sx : Int)) := N9.out.cell rfl
                      refine bodyPost_ret (v := .agg #[.int .i64 q1, .int .u8 4, .int .i64 (k : Int), .int .i64 (sx : Int)]) (by simp [results, Try.results35, go_sem, z0, z1, z2, z3]) rfl ?_
                      exact ⟨by rw [F3.out]; rfl, B3.out.low.trans (U9.out.below (Nat.le_succ _) B3.out.low.size)⟩
                  · have hki : ¬ (k : Int) < (g.outs.length : Int) := by omega
                    have FS5 : Hid (findS g = fS5 g) := by show _ = _; rw [FS4.out]; unfold fS4; rw [step_on (fun m b => HAL.out m (by omega))]
                    clear HAL hlt hk FS4
                    go_wp2
                    clear g0 g1 g2 g3 g4
                    go_loopg [15] g.actors.length (fun gk v wr => ∃ k : Nat, k ≤ g.actors.length ∧ gk = g.actors.length - k ∧ v = .int .i64 (k : Int) ∧ FBox w #[.string (str g.name), .slice a1 g.actors.length c1, .slice a2 g.edges.length c2, .slice a3 g.ins.length c3, .slice a4 g.outs.length c4] wr ∧ ∀ j : Nat, j < k → ((openC g) j).1 = 0)
                    case atStart => exact ⟨0, Nat.zero_le _, rfl, rfl, HB.out, fun j hj => absurd hj (Nat.not_lt_zero _)⟩
                    case round =>
                      clear HB hki
                      obtain ⟨k, hk, rfl, rfl, hB, hall⟩ := hrel
                      have HB := hiddenG hB
                      have HAL := hiddenG hall
                      have g0 : wr.cell? ⟨w.heap.size, 0, none⟩ = some (.string (str g.name)) := hB.1.1.cell rfl
                      have g1 : wr.cell? ⟨w.heap.size, 1, none⟩ = some (.slice a1 g.actors.length c1) := hB.1.1.cell rfl
                      have g2 : wr.cell? ⟨w.heap.size, 2, none⟩ = some (.slice a2 g.edges.length c2) := hB.1.1.cell rfl
                      have g3 : wr.cell? ⟨w.heap.size, 3, none⟩ = some (.slice a3 g.ins.length c3) := hB.1.1.cell rfl
                      have g4 : wr.cell? ⟨w.heap.size, 4, none⟩ = some (.slice a4 g.outs.length c4) := hB.1.1.cell rfl
                      clear hB hall
                      by_cases hlt : k < g.actors.length
                      · have hki : (k : Int) < (g.actors.length : Int) := by omega
                        have HNO : Hid (((openC g) k).1 = 0 → ∀ j : Nat, j < k + 1 → ((openC g) j).1 = 0) := fun e j hj => by
                          by_cases q : j < k
                          · exact HAL.out j q
                          · rw [show j = k by omega]; exact e
                        have CK := hiddenG (Copen.out wr k HB.out.low hlt)
                        have HYES : Hid (openB g k = true → findS g = ⟨87, 1, k, 0⟩) := fun e1 => by
                          have e2 : openC g k = (87, 0) := by unfold openC; rw [e1]; rfl
                          have e : (openC g k).1 ≠ 0 := by rw [e2]; decide
                          rw [FS5.out]; unfold fS5; rw [loop_stop _ 0 k (Nat.zero_le _) (by omega) e (fun m _ b => HAL.out m b), e2]
                        have HN2 : Hid (openB g k = false → ∀ j : Nat, j < k + 1 → (openC g j).1 = 0) := fun e1 => HNO.out (by unfold openC; rw [e1]; rfl)
                        clear HNO
                        obtain ⟨q1, hq1⟩ : ∃ q, openB g k = q := ⟨_, rfl⟩
                        rw [hq1] at HYES HN2 CK
                        clear hq1
                        cases q1
                        · go_wp2_with (go_at_call 71; (with_reducible refine CK.out.mono ?_); rintro e w3 ⟨rfl, b3⟩; have B3 := hiddenG (HB.out.later b3); clear b3)
                          go_roundg (g.actors.length - (k + 1))
                          case measure => omega
                          case rel => exact ⟨k + 1, by omega, rfl, by go_num, B3.out, HN2.out (by trivial)⟩
                        · have F3 : Hid (findS g = ⟨87, 1, k, 0⟩) := HYES.out rfl
                          go_wp2_with (first
                            | (refine wpList_storeW _ rfl 68 (.tmp 2) (.tmp 115) rfl rfl (w.heap.size + 1) 68 _ _ rfl rfl B3.out.2 sizX rfl rfl ?_; intro w9 hN hU; have N9 := hiddenG hN; have U9 := hiddenG hU; clear hN hU)
                            | (go_at_call 71; (with_reducible refine CK.out.mono ?_); rintro e w3 ⟨rfl, b3⟩; have B3 := hiddenG (HB.out.later b3); clear b3))
                          have z0 : w9.cell? ⟨w.heap.size + 1, 0, none⟩ = some (.int .i64 87) := N9.out.cell rfl
                          have z1 : w9.cell? ⟨w.heap.size + 1, 1, none⟩ = some (.int .u8 1) := N9.out.cell rfl
                          have z2 : w9.cell? ⟨w.heap.size + 1, 2, none⟩ = some (.int .i64 (k : Int)) := N9.out.cell rfl
                          have z3 : w9.cell? ⟨w.heap.size + 1, 3, none⟩ = some (.int .i64 0) := N9.out.cell rfl
                          refine bodyPost_ret (v := .agg #[.int .i64 87, .int .u8 1, .int .i64 (k : Int), .int .i64 0]) (by simp [results, Try.results35, go_sem, z0, z1, z2, z3]) rfl ?_
                          exact ⟨by rw [F3.out]; rfl, B3.out.low.trans (U9.out.below (Nat.le_succ _) B3.out.low.size)⟩
                      · have hki : ¬ (k : Int) < (g.actors.length : Int) := by omega
                        have F9 : Hid (findS g = fl0) := by show _ = _; rw [FS5.out]; unfold fS5; rw [zero_loop' _ 0 (fun m _ b => HAL.out m (by omega))]
                        go_wp2_with (first
                          | (refine wpList_storeW _ rfl 68 (.tmp 2) (.tmp 116) rfl rfl (w.heap.size + 1) 68 _ _ rfl rfl HB.out.2 sizX rfl rfl ?_; intro w9 hN hU; have N9 := hiddenG hN; have U9 := hiddenG hU; clear hN hU))
                        have z0 : w9.cell? ⟨w.heap.size + 1, 0, none⟩ = some (.int .i64 0) := N9.out.cell rfl
                        have z1 : w9.cell? ⟨w.heap.size + 1, 1, none⟩ = some (.int .u8 0) := N9.out.cell rfl
                        have z2 : w9.cell? ⟨w.heap.size + 1, 2, none⟩ = some (.int .i64 0) := N9.out.cell rfl
                        have z3 : w9.cell? ⟨w.heap.size + 1, 3, none⟩ = some (.int .i64 0) := N9.out.cell rfl
                        refine bodyPost_ret (v := .agg #[.int .i64 0, .int .u8 0, .int .i64 0, .int .i64 0]) (by simp [results, Try.results35, go_sem, z0, z1, z2, z3]) rfl ?_
                        exact ⟨by rw [F9.out]; rfl, HB.out.low.trans (U9.out.below (Nat.le_succ _) HB.out.low.size)⟩
  · have hm2 : (mc != 0) = true := by simpa using hm
    have F2 : Hid (findS g = ⟨mc, mk, mn, ms⟩) := FY.out hm
    clear FO FY
    go_wp2_with (first
      | (refine wpList_storeW _ rfl 68 (.tmp 2) (.tmp 31) rfl rfl (w.heap.size + 1) 68 _ _ rfl rfl B2.out.2 sizX rfl rfl ?_; intro w9 hN hU; have N9 := hiddenG hN; have U9 := hiddenG hU; clear hN hU))
    have z0 : w9.cell? ⟨w.heap.size + 1, 0, none⟩ = some (.int .i64 mc) := N9.out.cell rfl
    have z1 : w9.cell? ⟨w.heap.size + 1, 1, none⟩ = some (.int .u8 (mk : Int)) := N9.out.cell rfl
    have z2 : w9.cell? ⟨w.heap.size + 1, 2, none⟩ = some (.int .i64 (mn : Int)) := N9.out.cell rfl
    have z3 : w9.cell? ⟨w.heap.size + 1, 3, none⟩ = some (.int .i64 (ms : Int)) := N9.out.cell rfl
    refine bodyPost_ret (v := .agg #[.int .i64 mc, .int .u8 (mk : Int), .int .i64 (mn : Int), .int .i64 (ms : Int)]) (by simp [results, Try.results35, go_sem, z0, z1, z2, z3]) rfl ?_
    exact ⟨by rw [F2.out]; rfl, B2.out.low.trans (U9.out.below (Nat.le_succ _) B2.out.low.size)⟩
theorem wrong_f0 (a b c d : Value) (w : World) : (Instr.field 68 (.agg #[a, b, c, d]) 0).run Try.prog w = .ok a w := by kernel_rfl
set_option maxRecDepth 100000 in
set_option maxHeartbeats 1000000 in
/-- The document's Check is the program's. -/
theorem rcheck_any (g : GG) (a1 a2 a3 a4 : Option Addr) (c1 c2 c3 c4 : Nat) (w : World) (h : GrG w a1 a2 a3 a4 g) :
    Calls Try.prog 13 #[.agg #[.string (str g.name), .slice a1 g.actors.length c1, .slice a2 g.edges.length c2, .slice a3 g.ins.length c3, .slice a4 g.outs.length c4]] w fun e w' => e = .returned (.int .i64 (firstF g).code) ∧ Below w.heap.size w w' := by
  have ba := (Below.refl w.heap.size w).alloc (Nat.le_refl _) (.cells #[.string (str g.name), .slice a1 g.actors.length c1, .slice a2 g.edges.length c2, .slice a3 g.ins.length c3, .slice a4 g.outs.length c4] 26)
  have h2 := h.below ba
  have HF := hiddenG (find8_any g a1 a2 a3 a4 c1 c2 c3 c4 _ h2)
  rw [first_find]
  obtain ⟨⟨q, k, n, e⟩, hf⟩ : ∃ f, findS g = f := ⟨_, rfl⟩
  rw [hf] at HF
  rw [hf]
  unfold wV at HF
  have BA := hiddenG ba
  have gg := blkA_new 26 w #[.string (str g.name), .slice a1 g.actors.length c1, .slice a2 g.edges.length c2, .slice a3 g.ins.length c3, .slice a4 g.outs.length c4]
  have x0 := gg.cell (k := 0) rfl
  have x1 := gg.cell (k := 1) rfl
  have x2 := gg.cell (k := 2) rfl
  have x3 := gg.cell (k := 3) rfl
  have x4 := gg.cell (k := 4) rfl
  have f0 := wrong_f0 (.int .i64 q) (.int .u8 (k : Int)) (.int .i64 (n : Int)) (.int .i64 (e : Int))
  clear ba h2 h gg hf
  go_enter Try.func13, Try.ntmps13
  go_upto_region 1 with fail
  generalize w.alloc (.cells #[.string (str g.name), .slice a1 g.actors.length c1, .slice a2 g.edges.length c2, .slice a3 g.ins.length c3, .slice a4 g.outs.length c4] 26) = W0 at *
  go_wp2_with (go_at_call 35; (with_reducible refine HF.out.mono ?_); rintro e w1 ⟨rfl, b1⟩; have B1 := hiddenG b1; clear b1)
  go_ret
  exact ⟨rfl, BA.out.trans (B1.out.mono BA.out.size)⟩
theorem LentG.below {B : Nat} {w w' : World} {x1 x2 x3 x4 : Option Addr} {c1 c2 c3 c4 : Nat} {g : GG} (h : LentG B w x1 x2 x3 x4 c1 c2 c3 c4 g) (hb : Below w.heap.size w w') : LentG B w' x1 x2 x3 x4 c1 c2 c3 c4 g := h.keep fun k _ hk => hb.block k hk
set_option maxRecDepth 100000 in
set_option maxHeartbeats 16000000 in
theorem graphChecks_walk (g : GG) (a1 a2 a3 a4 : Option Addr) (c1 c2 c3 c4 : Nat) (w : World) (h : ArgG w a1 a2 a3 a4 c3 c4 g) :
    Calls Try.prog 3 #[.agg #[.string (str g.name), .slice a1 g.actors.length c1, .slice a2 g.edges.length c2, .slice a3 g.ins.length c3, .slice a4 g.outs.length c4]] w fun e w' => e = .returned (.bool true) ∧ Below w.heap.size w w' := by
  have ba := (Below.refl w.heap.size w).alloc (Nat.le_refl _) (.cells #[.string (str g.name), .slice a1 g.actors.length c1, .slice a2 g.edges.length c2, .slice a3 g.ins.length c3, .slice a4 g.outs.length c4] 26)
  have BA := hiddenG ba
  have X0 := hiddenG (blkA_new 26 w #[.string (str g.name), .slice a1 g.actors.length c1, .slice a2 g.edges.length c2, .slice a3 g.ins.length c3, .slice a4 g.outs.length c4])
  have HA := hiddenG h
  have HN := hiddenG h.gr.nums
  have HV := hiddenG (heavyGraph_any g a1 a2 a3 a4 c1 c2 c3 c4 _ (h.gr.below ba))
  have AW : Hid (∀ U, Calls Try.prog 11 #[] U fun e w' => e = .returned (.bool true) ∧ Below U.heap.size U w') := fun U => awake8 U
  have LG : Hid (Light g → ∀ U, Below w.heap.size w U → Calls Try.prog 10 #[.agg #[.string (str g.name), .slice a1 g.actors.length c1, .slice a2 g.edges.length c2, .slice a3 g.ins.length c3, .slice a4 g.outs.length c4]] U (LentGE g U)) := fun hL U hb => lentGraph_any g a1 a2 a3 a4 c1 c2 c3 c4 U (HA.out.below hb) hL
  have y0 : (w.alloc (.cells #[.string (str g.name), .slice a1 g.actors.length c1, .slice a2 g.edges.length c2, .slice a3 g.ins.length c3, .slice a4 g.outs.length c4] 26)).cell? ⟨w.heap.size, 0, none⟩ = some (.string (str g.name)) := (X0.out).cell rfl
  have y1 : (w.alloc (.cells #[.string (str g.name), .slice a1 g.actors.length c1, .slice a2 g.edges.length c2, .slice a3 g.ins.length c3, .slice a4 g.outs.length c4] 26)).cell? ⟨w.heap.size, 1, none⟩ = some (.slice a1 g.actors.length c1) := (X0.out).cell rfl
  have y2 : (w.alloc (.cells #[.string (str g.name), .slice a1 g.actors.length c1, .slice a2 g.edges.length c2, .slice a3 g.ins.length c3, .slice a4 g.outs.length c4] 26)).cell? ⟨w.heap.size, 2, none⟩ = some (.slice a2 g.edges.length c2) := (X0.out).cell rfl
  have y3 : (w.alloc (.cells #[.string (str g.name), .slice a1 g.actors.length c1, .slice a2 g.edges.length c2, .slice a3 g.ins.length c3, .slice a4 g.outs.length c4] 26)).cell? ⟨w.heap.size, 3, none⟩ = some (.slice a3 g.ins.length c3) := (X0.out).cell rfl
  have y4 : (w.alloc (.cells #[.string (str g.name), .slice a1 g.actors.length c1, .slice a2 g.edges.length c2, .slice a3 g.ins.length c3, .slice a4 g.outs.length c4] 26)).cell? ⟨w.heap.size, 4, none⟩ = some (.slice a4 g.outs.length c4) := (X0.out).cell rfl
  clear ba h
  go_enter Try.func3, Try.ntmps3
  go_upto_region 1 with fail
  generalize w.alloc (.cells #[.string (str g.name), .slice a1 g.actors.length c1, .slice a2 g.edges.length c2, .slice a3 g.ins.length c3, .slice a4 g.outs.length c4] 26) = W0 at *
  go_wp2_with (go_at_call 9; (with_reducible refine HV.out.mono ?_); rintro e w1 ⟨hv, rfl, hL, b1⟩; have B1 := hiddenG (BA.out.trans (b1.mono BA.out.size)); have HLI := hiddenG hL; have X1 := hiddenG (X0.out.below b1); clear hL b1 y0 y1 y2 y3 y4; have y0 : w1.cell? ⟨w.heap.size, 0, none⟩ = some (.string (str g.name)) := X1.out.cell rfl; have y1 : w1.cell? ⟨w.heap.size, 1, none⟩ = some (.slice a1 g.actors.length c1) := X1.out.cell rfl; have y2 : w1.cell? ⟨w.heap.size, 2, none⟩ = some (.slice a2 g.edges.length c2) := X1.out.cell rfl; have y3 : w1.cell? ⟨w.heap.size, 3, none⟩ = some (.slice a3 g.ins.length c3) := X1.out.cell rfl; have y4 : w1.cell? ⟨w.heap.size, 4, none⟩ = some (.slice a4 g.outs.length c4) := X1.out.cell rfl)
  · go_wp2
    go_ret
    exact ⟨by first | rfl | simp, B1.out⟩
  · have HL := hiddenG (HLI.out (by assumption))
    clear HLI X0 BA HV
    have LG1 := hiddenG (LG.out HL.out w1 B1.out)
    go_upto_region 4 with (go_at_call 10; (with_reducible refine LG1.out.mono ?_); rintro e w2 ⟨x1, x2, x3, x4, d1, d2, d3, d4, rfl, hl, b2⟩; have L2 := hiddenG hl; have B2 := hiddenG (B1.out.trans (b2.mono B1.out.size)); have X2 := hiddenG (X1.out.below b2); clear hl b2 y0 y1 y2 y3 y4)
    have bv := (Below.refl w2.heap.size w2).alloc (Nat.le_refl _) (.cells #[.string (str g.name), .slice x1 g.actors.length d1, .slice x2 g.edges.length d2, .slice x3 g.ins.length d3, .slice x4 g.outs.length d4] 26)
    have Y3 := hiddenG (blkA_new 26 w2 #[.string (str g.name), .slice x1 g.actors.length d1, .slice x2 g.edges.length d2, .slice x3 g.ins.length d3, .slice x4 g.outs.length d4])
    have B3 := hiddenG (B2.out.trans (bv.mono B2.out.size))
    have X3 := hiddenG (X2.out.below bv)
    have L3 := hiddenG (L2.out.below bv)
    clear bv L2 B2 X2 X1 B1 LG LG1
    generalize hb7 : w2.heap.size = t6 at *
    generalize w2.alloc (.cells #[.string (str g.name), .slice x1 g.actors.length d1, .slice x2 g.edges.length d2, .slice x3 g.ins.length d3, .slice x4 g.outs.length d4] 26) = V at *
    clear hb7
    obtain ⟨cd, hcd⟩ : ∃ q, (firstF g).code = q := ⟨_, rfl⟩
    have CP : Hid (∀ U, Below V.heap.size V U → Calls Try.prog 12 #[.agg #[.string (str g.name), .slice x1 g.actors.length d1, .slice x2 g.edges.length d2, .slice x3 g.ins.length d3, .slice x4 g.outs.length d4]] U fun e w' => e = .returned (.int .i64 cd) ∧ Below U.heap.size U w') := fun U hb => by
      have r := check_any g x1 x2 x3 x4 d1 d2 d3 d4 U ((L3.out.below hb).gr HN.out HL.out)
      rw [hcd] at r
      exact r
    have CD : Hid (∀ U, Below V.heap.size V U → Calls Try.prog 13 #[.agg #[.string (str g.name), .slice a1 g.actors.length c1, .slice a2 g.edges.length c2, .slice a3 g.ins.length c3, .slice a4 g.outs.length c4]] U fun e w' => e = .returned (.int .i64 cd) ∧ Below U.heap.size U w') := fun U hb => by
      have r := rcheck_any g a1 a2 a3 a4 c1 c2 c3 c4 U (HA.out.gr.below (B3.out.trans (hb.mono B3.out.size)))
      rw [hcd] at r
      exact r
    have KG : Hid (∀ U, Below V.heap.size V U → Calls Try.prog 14 #[.agg #[.string (str g.name), .slice x1 g.actors.length d1, .slice x2 g.edges.length d2, .slice x3 g.ins.length d3, .slice x4 g.outs.length d4], .agg #[.string (str g.name), .slice a1 g.actors.length c1, .slice a2 g.edges.length c2, .slice a3 g.ins.length c3, .slice a4 g.outs.length c4]] U fun e w' => e = .returned (.bool true) ∧ Below U.heap.size U w') := fun U hb => keptGraph_any g x1 x2 x3 x4 a1 a2 a3 a4 d1 d2 d3 d4 c1 c2 c3 c4 _ U (L3.out.below hb) (HA.out.gr.below (B3.out.trans (hb.mono B3.out.size))) HL.out
    clear hcd L3 HL HN HA
    refine wp_region_gen [] (fun d i u z => match i with
        | 0 => z = .bool true
        | 1 => z = .bool true
        | 2 => z = .agg #[.string (str g.name), .slice x1 g.actors.length d1, .slice x2 g.edges.length d2, .slice x3 g.ins.length d3, .slice x4 g.outs.length d4]
        | 3 => z = .int .i64 cd
        | 4 => z = .agg #[.string (str g.name), .slice a1 g.actors.length c1, .slice a2 g.edges.length c2, .slice a3 g.ins.length c3, .slice a4 g.outs.length c4]
        | 5 => z = .int .i64 cd
        | 6 => z = .bool true
        | 7 => z = .bool true
        | 8 => z = .bool true
        | 9 => z = .agg #[.string (str g.name), .slice x1 g.actors.length d1, .slice x2 g.edges.length d2, .slice x3 g.ins.length d3, .slice x4 g.outs.length d4]
        | 10 => z = .agg #[.string (str g.name), .slice a1 g.actors.length c1, .slice a2 g.edges.length c2, .slice a3 g.ins.length c3, .slice a4 g.outs.length c4]
        | 11 => z = .bool true
        | 12 => z = .bool true
        | 13 => z = .bool true
        | _ => True) (fun _ u => Below V.heap.size V u) (by kernel_rfl) (by kernel_rfl) (by kernel_rfl) ?_ ?_ ?_ ?_ ?_ ?_ (by kernel_rfl)
    · intro d i w v w' h hb
      match i, h with
      | 0, h => exact h
      | 1, h => exact h
      | 2, h => exact h
      | 3, h => exact h
      | 4, h => exact h
      | 5, h => exact h
      | 6, h => exact h
      | 7, h => exact h
      | 8, h => exact h
      | 9, h => exact h
      | 10, h => exact h
      | 11, h => exact h
      | 12, h => exact h
      | 13, h => exact h
      | _ + 14, _ => trivial
    · intro d u u' h hb
      exact h.trans (hb.mono h.size)
    · exact Below.refl _ _
    · intro d i o ρ w' hm ho hf hg hC hcs hfs hfr hdep
      match i, hm, ho, hf, hg, hfr, hdep with
      | 0, _, ho, hf, hg, hfr, hdep =>
        simp only [gTA, gCZ, gSI] at ho
        subst ho
        refine ⟨fun _ => ?_, fun hw => absurd (show true = false from hw) (by decide)⟩
        simp [go_sem, hfs]
        exact ⟨rfl, (AW.out w').mono fun e w'' hh => ⟨_, hh.1, hh.2, rfl⟩⟩
      | 1, _, ho, hf, hg, hfr, hdep =>
        simp only [gTA, gCZ, gCS, gSI] at ho
        subst ho
        refine ⟨fun _ => ?_, fun hw => absurd (show true = false from hw) (by decide)⟩
        have d0 : ρ (.tmp 8) = .bool true := hdep 0 8 (by kernel_rfl) (by kernel_rfl)
        simp [go_sem, d0]
        exact ⟨Below.refl _ _, rfl⟩
      | 2, _, ho, hf, hg, hfr, hdep =>
        simp only [gTA, gCZ, gCS, gSI] at ho
        subst ho
        have gd : ρ (.tmp 9) = .bool true := hdep 1 9 (by kernel_rfl) (by kernel_rfl)
        refine ⟨fun _ => ?_, fun hw => absurd (show (match ρ (.tmp 9) with | .bool c => c == true | _ => false) = false from hw) (by rw [gd]; decide)⟩
        clear gd
        have q := (Y3.out.below hC)
        have s0 : w'.cell? ⟨t6, 0, none⟩ = some (.string (str g.name)) := q.cell rfl
        have s1 : w'.cell? ⟨t6, 1, none⟩ = some (.slice x1 g.actors.length d1) := q.cell rfl
        have s2 : w'.cell? ⟨t6, 2, none⟩ = some (.slice x2 g.edges.length d2) := q.cell rfl
        have s3 : w'.cell? ⟨t6, 3, none⟩ = some (.slice x3 g.ins.length d3) := q.cell rfl
        have s4 : w'.cell? ⟨t6, 4, none⟩ = some (.slice x4 g.outs.length d4) := q.cell rfl
        have ts : ρ (.tmp 3) = .pointer (some ⟨t6, 0, none⟩) := hfr 3 (by kernel_rfl)
        simp [go_sem, ts, s0, s1, s2, s3, s4]
        exact ⟨Below.refl _ _, rfl⟩
      | 3, _, ho, hf, hg, hfr, hdep =>
        simp only [gTA, gCZ, gCS, gSI] at ho
        subst ho
        have gd : ρ (.tmp 9) = .bool true := hdep 1 9 (by kernel_rfl) (by kernel_rfl)
        refine ⟨fun _ => ?_, fun hw => absurd (show (match ρ (.tmp 9) with | .bool c => c == true | _ => false) = false from hw) (by rw [gd]; decide)⟩
        clear gd
        have t0 : ρ (.tmp 10) = .agg #[.string (str g.name), .slice x1 g.actors.length d1, .slice x2 g.edges.length d2, .slice x3 g.ins.length d3, .slice x4 g.outs.length d4] := hdep 2 10 (by kernel_rfl) (by kernel_rfl)
        simp [go_sem, t0, hfs]
        exact ⟨rfl, (CP.out w' hC).mono fun e w'' hh => ⟨_, hh.1, hh.2, rfl⟩⟩
      | 4, _, ho, hf, hg, hfr, hdep =>
        simp only [gTA, gCZ, gCS, gSI] at ho
        subst ho
        have gd : ρ (.tmp 9) = .bool true := hdep 1 9 (by kernel_rfl) (by kernel_rfl)
        refine ⟨fun _ => ?_, fun hw => absurd (show (match ρ (.tmp 9) with | .bool c => c == true | _ => false) = false from hw) (by rw [gd]; decide)⟩
        clear gd
        have q := (X3.out.below hC)
        have s0 : w'.cell? ⟨w.heap.size, 0, none⟩ = some (.string (str g.name)) := q.cell rfl
        have s1 : w'.cell? ⟨w.heap.size, 1, none⟩ = some (.slice a1 g.actors.length c1) := q.cell rfl
        have s2 : w'.cell? ⟨w.heap.size, 2, none⟩ = some (.slice a2 g.edges.length c2) := q.cell rfl
        have s3 : w'.cell? ⟨w.heap.size, 3, none⟩ = some (.slice a3 g.ins.length c3) := q.cell rfl
        have s4 : w'.cell? ⟨w.heap.size, 4, none⟩ = some (.slice a4 g.outs.length c4) := q.cell rfl
        have ts : ρ (.tmp 1) = .pointer (some ⟨w.heap.size, 0, none⟩) := hfr 1 (by kernel_rfl)
        simp [go_sem, ts, s0, s1, s2, s3, s4]
        exact ⟨Below.refl _ _, rfl⟩
      | 5, _, ho, hf, hg, hfr, hdep =>
        simp only [gTA, gCZ, gCS, gSI] at ho
        subst ho
        have gd : ρ (.tmp 9) = .bool true := hdep 1 9 (by kernel_rfl) (by kernel_rfl)
        refine ⟨fun _ => ?_, fun hw => absurd (show (match ρ (.tmp 9) with | .bool c => c == true | _ => false) = false from hw) (by rw [gd]; decide)⟩
        clear gd
        have t0 : ρ (.tmp 12) = .agg #[.string (str g.name), .slice a1 g.actors.length c1, .slice a2 g.edges.length c2, .slice a3 g.ins.length c3, .slice a4 g.outs.length c4] := hdep 4 12 (by kernel_rfl) (by kernel_rfl)
        simp [go_sem, t0, hfs]
        exact ⟨rfl, (CD.out w' hC).mono fun e w'' hh => ⟨_, hh.1, hh.2, rfl⟩⟩
      | 6, _, ho, hf, hg, hfr, hdep =>
        simp only [gTA, gCZ, gCS, gSI] at ho
        subst ho
        have gd : ρ (.tmp 9) = .bool true := hdep 1 9 (by kernel_rfl) (by kernel_rfl)
        refine ⟨fun _ => ?_, fun hw => absurd (show (match ρ (.tmp 9) with | .bool c => c == true | _ => false) = false from hw) (by rw [gd]; decide)⟩
        clear gd
        have d0 : ρ (.tmp 11) = .int .i64 cd := hdep 3 11 (by kernel_rfl) (by kernel_rfl)
        have d1 : ρ (.tmp 13) = .int .i64 cd := hdep 5 13 (by kernel_rfl) (by kernel_rfl)
        simp [go_sem, d0, d1]
        exact ⟨Below.refl _ _, rfl⟩
      | 7, _, ho, hf, hg, hfr, hdep =>
        simp only [gTA, gCZ, gCS, gSI] at ho
        subst ho
        refine ⟨fun _ => ?_, fun hw => absurd (show true = false from hw) (by decide)⟩
        have d0 : ρ (.tmp 9) = .bool true := hdep 1 9 (by kernel_rfl) (by kernel_rfl)
        have d1 : ρ (.tmp 14) = .bool true := hdep 6 14 (by kernel_rfl) (by kernel_rfl)
        simp [go_sem, d0, d1, hcs]
        exact ⟨Below.refl _ _, rfl⟩
      | 8, _, ho, hf, hg, hfr, hdep =>
        simp only [gTA, gCZ, gCS, gSI] at ho
        subst ho
        refine ⟨fun _ => ?_, fun hw => absurd (show true = false from hw) (by decide)⟩
        have d0 : ρ (.tmp 15) = .bool true := hdep 7 15 (by kernel_rfl) (by kernel_rfl)
        simp [go_sem, d0]
        exact ⟨Below.refl _ _, rfl⟩
      | 9, _, ho, hf, hg, hfr, hdep =>
        simp only [gTA, gCZ, gCS, gSI] at ho
        subst ho
        have gd : ρ (.tmp 16) = .bool true := hdep 8 16 (by kernel_rfl) (by kernel_rfl)
        refine ⟨fun _ => ?_, fun hw => absurd (show (match ρ (.tmp 16) with | .bool c => c == true | _ => false) = false from hw) (by rw [gd]; decide)⟩
        clear gd
        have q := (Y3.out.below hC)
        have s0 : w'.cell? ⟨t6, 0, none⟩ = some (.string (str g.name)) := q.cell rfl
        have s1 : w'.cell? ⟨t6, 1, none⟩ = some (.slice x1 g.actors.length d1) := q.cell rfl
        have s2 : w'.cell? ⟨t6, 2, none⟩ = some (.slice x2 g.edges.length d2) := q.cell rfl
        have s3 : w'.cell? ⟨t6, 3, none⟩ = some (.slice x3 g.ins.length d3) := q.cell rfl
        have s4 : w'.cell? ⟨t6, 4, none⟩ = some (.slice x4 g.outs.length d4) := q.cell rfl
        have ts : ρ (.tmp 3) = .pointer (some ⟨t6, 0, none⟩) := hfr 3 (by kernel_rfl)
        simp [go_sem, ts, s0, s1, s2, s3, s4]
        exact ⟨Below.refl _ _, rfl⟩
      | 10, _, ho, hf, hg, hfr, hdep =>
        simp only [gTA, gCZ, gCS, gSI] at ho
        subst ho
        have gd : ρ (.tmp 16) = .bool true := hdep 8 16 (by kernel_rfl) (by kernel_rfl)
        refine ⟨fun _ => ?_, fun hw => absurd (show (match ρ (.tmp 16) with | .bool c => c == true | _ => false) = false from hw) (by rw [gd]; decide)⟩
        clear gd
        have q := (X3.out.below hC)
        have s0 : w'.cell? ⟨w.heap.size, 0, none⟩ = some (.string (str g.name)) := q.cell rfl
        have s1 : w'.cell? ⟨w.heap.size, 1, none⟩ = some (.slice a1 g.actors.length c1) := q.cell rfl
        have s2 : w'.cell? ⟨w.heap.size, 2, none⟩ = some (.slice a2 g.edges.length c2) := q.cell rfl
        have s3 : w'.cell? ⟨w.heap.size, 3, none⟩ = some (.slice a3 g.ins.length c3) := q.cell rfl
        have s4 : w'.cell? ⟨w.heap.size, 4, none⟩ = some (.slice a4 g.outs.length c4) := q.cell rfl
        have ts : ρ (.tmp 1) = .pointer (some ⟨w.heap.size, 0, none⟩) := hfr 1 (by kernel_rfl)
        simp [go_sem, ts, s0, s1, s2, s3, s4]
        exact ⟨Below.refl _ _, rfl⟩
      | 11, _, ho, hf, hg, hfr, hdep =>
        simp only [gTA, gCZ, gCS, gSI] at ho
        subst ho
        have gd : ρ (.tmp 16) = .bool true := hdep 8 16 (by kernel_rfl) (by kernel_rfl)
        refine ⟨fun _ => ?_, fun hw => absurd (show (match ρ (.tmp 16) with | .bool c => c == true | _ => false) = false from hw) (by rw [gd]; decide)⟩
        clear gd
        have t0 : ρ (.tmp 17) = .agg #[.string (str g.name), .slice x1 g.actors.length d1, .slice x2 g.edges.length d2, .slice x3 g.ins.length d3, .slice x4 g.outs.length d4] := hdep 9 17 (by kernel_rfl) (by kernel_rfl)
        have t1 : ρ (.tmp 18) = .agg #[.string (str g.name), .slice a1 g.actors.length c1, .slice a2 g.edges.length c2, .slice a3 g.ins.length c3, .slice a4 g.outs.length c4] := hdep 10 18 (by kernel_rfl) (by kernel_rfl)
        simp [go_sem, t0, t1, hfs]
        exact ⟨rfl, (KG.out w' hC).mono fun e w'' hh => ⟨_, hh.1, hh.2, rfl⟩⟩
      | 12, _, ho, hf, hg, hfr, hdep =>
        simp only [gTA, gCZ, gCS, gSI] at ho
        subst ho
        refine ⟨fun _ => ?_, fun hw => absurd (show true = false from hw) (by decide)⟩
        have d0 : ρ (.tmp 16) = .bool true := hdep 8 16 (by kernel_rfl) (by kernel_rfl)
        have d1 : ρ (.tmp 19) = .bool true := hdep 11 19 (by kernel_rfl) (by kernel_rfl)
        simp [go_sem, d0, d1, hcs]
        exact ⟨Below.refl _ _, rfl⟩
      | 13, _, ho, hf, hg, hfr, hdep =>
        simp only [gTA, gCZ, gCS, gSI] at ho
        subst ho
        refine ⟨fun _ => ?_, fun hw => absurd (show true = false from hw) (by decide)⟩
        have d0 : ρ (.tmp 20) = .bool true := hdep 12 20 (by kernel_rfl) (by kernel_rfl)
        simp [go_sem, d0]
        exact ⟨Below.refl _ _, rfl⟩
      | n + 14, _, ho, _, _, _, _ => simp at ho
    · intro d i o ρ w' hm ho h0 hf hg hC hcs hfs hfr hdep
      exact absurd hm (by simp)
    · intro V9 w9 hC9 hS
      have e0 : V9 0 = .bool true := hS 0 (by decide) (by intro h; cases h)
      have e1 : V9 1 = .bool true := hS 1 (by decide) (by intro h; cases h)
      have e2 : V9 2 = .agg #[.string (str g.name), .slice x1 g.actors.length d1, .slice x2 g.edges.length d2, .slice x3 g.ins.length d3, .slice x4 g.outs.length d4] := hS 2 (by decide) (by intro h; cases h)
      have e3 : V9 3 = .int .i64 cd := hS 3 (by decide) (by intro h; cases h)
      have e4 : V9 4 = .agg #[.string (str g.name), .slice a1 g.actors.length c1, .slice a2 g.edges.length c2, .slice a3 g.ins.length c3, .slice a4 g.outs.length c4] := hS 4 (by decide) (by intro h; cases h)
      have e5 : V9 5 = .int .i64 cd := hS 5 (by decide) (by intro h; cases h)
      have e6 : V9 6 = .bool true := hS 6 (by decide) (by intro h; cases h)
      have e7 : V9 7 = .bool true := hS 7 (by decide) (by intro h; cases h)
      have e8 : V9 8 = .bool true := hS 8 (by decide) (by intro h; cases h)
      have e9 : V9 9 = .agg #[.string (str g.name), .slice x1 g.actors.length d1, .slice x2 g.edges.length d2, .slice x3 g.ins.length d3, .slice x4 g.outs.length d4] := hS 9 (by decide) (by intro h; cases h)
      have e10 : V9 10 = .agg #[.string (str g.name), .slice a1 g.actors.length c1, .slice a2 g.edges.length c2, .slice a3 g.ins.length c3, .slice a4 g.outs.length c4] := hS 10 (by decide) (by intro h; cases h)
      have e11 : V9 11 = .bool true := hS 11 (by decide) (by intro h; cases h)
      have e12 : V9 12 = .bool true := hS 12 (by decide) (by intro h; cases h)
      have e13 : V9 13 = .bool true := hS 13 (by decide) (by intro h; cases h)
      simp only [puts, e0, e1, e2, e3, e4, e5, e6, e7, e8, e9, e10, e11, e12, e13]
      simp only [Act.put, List.setIfInBounds_toArray, List.set_cons_zero, List.set_cons_succ]
      clear hS e0 e1 e2 e3 e4 e5 e6 e7 e8 e9 e10 e11 e12 e13
      have B9 := hiddenG (B3.out.trans (hC9.mono B3.out.size))
      clear hC9
      go_wp2
      go_ret
      exact ⟨by first | rfl | simp, B9.out⟩
end Go.Proofs.Ytfnhlcahmgppaaa
