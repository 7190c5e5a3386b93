/- Texts of one chain, laid one behind the other. -/
import Derived.Test.YtlfmmdioondaoaaPartGraphDraws29
import Derived.Test.YtlfmmdioondaoaaPartGraphDraws22
import Derived.Test.YtlfmmdioondaoaaPartGraphDraws28
namespace Go.Proofs.Ytlfmmdioondaoaa
open Go.ChangeShapes Go.WideShapes Go.ChangeAt Go.RowKit
theorem GBox.low {w u : World} {gv : Array Value} (h : GBox w gv u) : Below w.heap.size w u := h.2
theorem GBox.later {w u u' : World} {gv : Array Value} (h : GBox w gv u) (hb : Below u.heap.size u u') : GBox w gv u' := ⟨h.1.below hb, h.2.trans (hb.mono h.2.size)⟩
theorem range_yes {n k : Nat} {P : Nat → Bool} (hk : k < n) (h : P k = false) : (List.range n).any (fun p => !P p) = true := List.any_eq_true.2 ⟨k, List.mem_range.2 hk, by rw [h]; rfl⟩
theorem range_no {n : Nat} {P : Nat → Bool} (h : ∀ j, j < n → P j = true) : (List.range n).any (fun p => !P p) = false := List.any_eq_false.2 fun p hp => by rw [h p (List.mem_range.1 hp)]; decide
set_option maxRecDepth 100000 in
set_option maxHeartbeats 8000000 in
theorem open8_any (g : GG) (a1 a2 a3 a4 : Option Addr) (c1 c2 c3 c4 : Nat) (i : Nat) (w : World) (h : GrG w a1 a2 a3 a4 g) (hi : i < g.actors.length) :
    Calls Try.prog 73 #[.agg #[.string (str g.name), .slice a1 g.actors.length c1, .slice a2 g.edges.length c2, .slice a3 g.ins.length c3, .slice a4 g.outs.length c4], .int .i64 (i : Int)] w fun e w' => e = .returned (.bool (openB g i)) ∧ Below w.heap.size w w' := by
  have HG := hiddenG h
  have n2 : (g.edges.length : Int) ≤ 1000000000000000 := by have := h.l2; omega
  have n3 : (g.ins.length : Int) ≤ 1000000000000000 := by have := h.l3; omega
  have n4 : (g.outs.length : Int) ≤ 1000000000000000 := by have := h.l4; omega
  have s1 : insN g i ≤ 1024 := (of_small _ _).1
  have s2 : outsN g i ≤ 1024 := (of_small _ _).2
  have RT : Hid (∀ U, Below w.heap.size w U → Calls Try.prog 91 #[.agg #[.string (str g.name), .slice a1 g.actors.length c1, .slice a2 g.edges.length c2, .slice a3 g.ins.length c3, .slice a4 g.outs.length c4], .int .i64 (i : Int)] U fun e w' => e = .returned (.tuple #[.int .i64 (insN g i : Int), .int .i64 (outsN g i : Int)]) ∧ Below U.heap.size U w') := fun U hb => rates8_any g a1 a2 a3 a4 c1 c2 c3 c4 i U (HG.out.below hb) hi
  have IT : Hid (∀ U (p : Int), Below w.heap.size w U → Calls Try.prog 90 #[.agg #[.string (str g.name), .slice a1 g.actors.length c1, .slice a2 g.edges.length c2, .slice a3 g.ins.length c3, .slice a4 g.outs.length c4], .int .i64 (g.edges.length : Int), .int .i64 (g.ins.length : Int), .int .i64 (i : Int), .int .i64 p] U fun e w' => e = .returned (.bool (inTk g g.edges.length g.ins.length (i : Int) p)) ∧ Below U.heap.size U w') := fun U p hb => inTaken_any g a1 a2 a3 a4 c1 c2 c3 c4 _ _ _ _ U (HG.out.below hb) (Nat.le_refl _) (Nat.le_refl _)
  have OT : Hid (∀ U (p : Int), Below w.heap.size w U → Calls Try.prog 89 #[.agg #[.string (str g.name), .slice a1 g.actors.length c1, .slice a2 g.edges.length c2, .slice a3 g.ins.length c3, .slice a4 g.outs.length c4], .int .i64 (g.edges.length : Int), .int .i64 (g.outs.length : Int), .int .i64 (i : Int), .int .i64 p] U fun e w' => e = .returned (.bool (outTk g g.edges.length g.outs.length (i : Int) p)) ∧ Below U.heap.size U w') := fun U p hb => outTaken_any g a1 a2 a3 a4 c1 c2 c3 c4 _ _ _ _ U (HG.out.below hb) (Nat.le_refl _) (Nat.le_refl _)
  have HO : Hid (openB g i = ((List.range (insN g i)).any (fun p => !inTk g g.edges.length g.ins.length (i : Int) (p : Int)) || (List.range (outsN g i)).any (fun p => !outTk g g.edges.length g.outs.length (i : Int) (p : Int)))) := by rfl
  have B0 := hiddenG (gbox_new w #[.string (str g.name), .slice a1 g.actors.length c1, .slice a2 g.edges.length c2, .slice a3 g.ins.length c3, .slice a4 g.outs.length c4])
  clear h hi HG
  generalize insN g i = nI at *
  generalize outsN g i = nO at *
  generalize inTk g g.edges.length g.ins.length (i : Int) = FI at *
  generalize outTk g g.edges.length g.outs.length (i : Int) = FO at *
  go_enter Try.func73, Try.ntmps73
  go_upto_region 1 with fail
  generalize w.alloc (.cells #[.string (str g.name), .slice a1 g.actors.length c1, .slice a2 g.edges.length c2, .slice a3 g.ins.length c3, .slice a4 g.outs.length c4] 31) = W0 at *
  have g0 : W0.cell? ⟨w.heap.size, 0, none⟩ = some (.string (str g.name)) := B0.out.1.cell rfl
  have g1 : W0.cell? ⟨w.heap.size, 1, none⟩ = some (.slice a1 g.actors.length c1) := B0.out.1.cell rfl
  have g2 : W0.cell? ⟨w.heap.size, 2, none⟩ = some (.slice a2 g.edges.length c2) := B0.out.1.cell rfl
  have g3 : W0.cell? ⟨w.heap.size, 3, none⟩ = some (.slice a3 g.ins.length c3) := B0.out.1.cell rfl
  have g4 : W0.cell? ⟨w.heap.size, 4, none⟩ = some (.slice a4 g.outs.length c4) := B0.out.1.cell rfl
  go_wp2_with (go_at_call 91; (with_reducible refine (RT.out _ B0.out.low).mono ?_); rintro e w2 ⟨rfl, b2⟩; have B2 := hiddenG (B0.out.later b2); clear b2)
  clear g0 g1 g2 g3 g4 RT
  go_loopg [7] nI (fun gk v wr => ∃ k : Nat, k ≤ nI ∧ gk = nI - k ∧ v = .int .i64 (k : Int) ∧ GBox w #[.string (str g.name), .slice a1 g.actors.length c1, .slice a2 g.edges.length c2, .slice a3 g.ins.length c3, .slice a4 g.outs.length c4] wr ∧ ∀ j : Nat, j < k → FI (j : Int) = true)
  case atStart => exact ⟨0, Nat.zero_le _, rfl, rfl, B2.out, fun j hj => absurd hj (Nat.not_lt_zero _)⟩
  case round =>
    clear B2 B0
    obtain ⟨k, hk, rfl, rfl, hB, hall⟩ := hrel
    have HB := hiddenG hB
    have HAL := hiddenG hall
    have g0 : wr.cell? ⟨w.heap.size, 0, none⟩ = some (.string (str g.name)) := hB.1.cell rfl
    have g1 : wr.cell? ⟨w.heap.size, 1, none⟩ = some (.slice a1 g.actors.length c1) := hB.1.cell rfl
    have g2 : wr.cell? ⟨w.heap.size, 2, none⟩ = some (.slice a2 g.edges.length c2) := hB.1.cell rfl
    have g3 : wr.cell? ⟨w.heap.size, 3, none⟩ = some (.slice a3 g.ins.length c3) := hB.1.cell rfl
    have g4 : wr.cell? ⟨w.heap.size, 4, none⟩ = some (.slice a4 g.outs.length c4) := hB.1.cell rfl
    clear hB hall
    by_cases hlt : k < nI
    · have hki : (k : Int) < (nI : Int) := by omega
      have HYES : Hid (FI (k : Int) = false → openB g i = true) := fun e => by rw [HO.out, range_yes (P := fun p : Nat => FI (p : Int)) hlt e, Bool.true_or]
      have HNO : Hid (FI (k : Int) = true → ∀ j : Nat, j < k + 1 → FI (j : Int) = true) := fun e j hj => by
        by_cases q : j < k
        · exact HAL.out j q
        · rw [show j = k by omega]; exact e
      have CK := hiddenG (IT.out wr (k : Int) HB.out.2)
      obtain ⟨q1, hq1⟩ : ∃ q, FI (k : Int) = q := ⟨_, rfl⟩
      rw [hq1] at HYES HNO CK
      clear hq1
      cases q1
      · go_wp2_with (go_at_call 90; (with_reducible refine CK.out.mono ?_); rintro e w3 ⟨rfl, b3⟩; have B3 := hiddenG (HB.out.later b3); clear b3)
        go_ret
        exact ⟨by rw [HYES.out (by trivial)]; rfl, B3.out.2⟩
      · go_wp2_with (go_at_call 90; (with_reducible refine CK.out.mono ?_); rintro e w3 ⟨rfl, b3⟩; have B3 := hiddenG (HB.out.later b3); clear b3)
        go_roundg (nI - (k + 1))
        case measure => omega
        case rel => exact ⟨k + 1, by omega, rfl, by go_num, B3.out, HNO.out (by trivial)⟩
    · have hki : ¬ (k : Int) < (nI : Int) := by omega
      have Z0 : Hid ((List.range nI).any (fun p => !FI (p : Int)) = false) := range_no (P := fun p : Nat => FI (p : Int)) (fun j hj => HAL.out j (by omega))
      clear g0 g1 g2 g3 g4 HAL hlt hk
      go_wp2
      go_loopg [8] nO (fun gk v wr => ∃ k : Nat, k ≤ nO ∧ gk = nO - k ∧ v = .int .i64 (k : Int) ∧ GBox w #[.string (str g.name), .slice a1 g.actors.length c1, .slice a2 g.edges.length c2, .slice a3 g.ins.length c3, .slice a4 g.outs.length c4] wr ∧ ∀ j : Nat, j < k → FO (j : Int) = true)
      case atStart => exact ⟨0, Nat.zero_le _, rfl, rfl, HB.out, fun j hj => absurd hj (Nat.not_lt_zero _)⟩
      case round =>
        clear HB hki
        obtain ⟨k, hk, rfl, rfl, hB, hall⟩ := hrel
        have HB := hiddenG hB
        have HAL := hiddenG hall
        have g0 : wr.cell? ⟨w.heap.size, 0, none⟩ = some (.string (str g.name)) := hB.1.cell rfl
        have g1 : wr.cell? ⟨w.heap.size, 1, none⟩ = some (.slice a1 g.actors.length c1) := hB.1.cell rfl
        have g2 : wr.cell? ⟨w.heap.size, 2, none⟩ = some (.slice a2 g.edges.length c2) := hB.1.cell rfl
        have g3 : wr.cell? ⟨w.heap.size, 3, none⟩ = some (.slice a3 g.ins.length c3) := hB.1.cell rfl
        have g4 : wr.cell? ⟨w.heap.size, 4, none⟩ = some (.slice a4 g.outs.length c4) := hB.1.cell rfl
        clear hB hall
        by_cases hlt : k < nO
        · have hki : (k : Int) < (nO : Int) := by omega
          have HYES : Hid (FO (k : Int) = false → openB g i = true) := fun e => by rw [HO.out, Z0.out, range_yes (P := fun p : Nat => FO (p : Int)) hlt e, Bool.false_or]
          have HNO : Hid (FO (k : Int) = true → ∀ j : Nat, j < k + 1 → FO (j : Int) = true) := fun e j hj => by
            by_cases q : j < k
            · exact HAL.out j q
            · rw [show j = k by omega]; exact e
          have CK := hiddenG (OT.out wr (k : Int) HB.out.2)
          obtain ⟨q1, hq1⟩ : ∃ q, FO (k : Int) = q := ⟨_, rfl⟩
          rw [hq1] at HYES HNO CK
          clear hq1
          cases q1
          · go_wp2_with (go_at_call 89; (with_reducible refine CK.out.mono ?_); rintro e w3 ⟨rfl, b3⟩; have B3 := hiddenG (HB.out.later b3); clear b3)
            go_ret
            exact ⟨by rw [HYES.out (by trivial)]; rfl, B3.out.2⟩
          · go_wp2_with (go_at_call 89; (with_reducible refine CK.out.mono ?_); rintro e w3 ⟨rfl, b3⟩; have B3 := hiddenG (HB.out.later b3); clear b3)
            go_roundg (nO - (k + 1))
            case measure => omega
            case rel => exact ⟨k + 1, by omega, rfl, by go_num, B3.out, HNO.out (by trivial)⟩
        · have hki : ¬ (k : Int) < (nO : Int) := by omega
          have Z1 : Hid ((List.range nO).any (fun p => !FO (p : Int)) = false) := range_no (P := fun p : Nat => FO (p : Int)) (fun j hj => HAL.out j (by omega))
          have HP0 : Hid (openB g i = false) := by show _ = _; rw [HO.out, Z0.out, Z1.out]; rfl
          go_wp2
          go_ret
          exact ⟨by rw [HP0.out]; rfl, HB.out.2⟩
theorem sizX : (Try.prog.info? 71).map (·.size) = some 4 := by kernel_rfl
/-- What is wrong, and where, as the document's value. -/
def wV (f : FL) : Value := .agg #[.int .i64 f.code, .int .u8 (f.kind : Int), .int .i64 (f.number : Int), .int .i64 (f.stop : Int)]
def manyF (g : GG) : FL :=
  if 32 < g.actors.length then ⟨81, 1, 32, 0⟩ else if 96 < g.edges.length then ⟨81, 2, 96, 0⟩ else if 16 < g.ins.length then ⟨81, 3, 16, 0⟩ else if 16 < g.outs.length then ⟨81, 4, 16, 0⟩ else fl0
set_option maxRecDepth 100000 in
set_option maxHeartbeats 4000000 in
theorem many8_any (g : GG) (a1 a2 a3 a4 : Option Addr) (c1 c2 c3 c4 : Nat) (w : World) (l1 : g.actors.length ≤ 1000000000000000) (l2 : g.edges.length ≤ 1000000000000000) (l3 : g.ins.length ≤ 1000000000000000) (l4 : g.outs.length ≤ 1000000000000000) :
    Calls Try.prog 68 #[.agg #[.string (str g.name), .slice a1 g.actors.length c1, .slice a2 g.edges.length c2, .slice a3 g.ins.length c3, .slice a4 g.outs.length c4]] w fun e w' => e = .returned (wV (manyF g)) ∧ Below w.heap.size w w' := by
  have ba := ((Below.refl w.heap.size w).alloc (Nat.le_refl _) (.cells #[.string (str g.name), .slice a1 g.actors.length c1, .slice a2 g.edges.length c2, .slice a3 g.ins.length c3, .slice a4 g.outs.length c4] 31)).alloc (by simp) (.cells #[.int .i64 0, .int .u8 0, .int .i64 0, .int .i64 0] 71)
  have BA := hiddenG ba
  have gg := (blkA_new 31 w #[.string (str g.name), .slice a1 g.actors.length c1, .slice a2 g.edges.length c2, .slice a3 g.ins.length c3, .slice a4 g.outs.length c4]).below ((Below.refl _ _).alloc (Nat.le_refl _) (.cells #[.int .i64 0, .int .u8 0, .int .i64 0, .int .i64 0] 71))
  have nr : BlkA 71 (w.heap.size + 1) ((w.alloc (.cells #[.string (str g.name), .slice a1 g.actors.length c1, .slice a2 g.edges.length c2, .slice a3 g.ins.length c3, .slice a4 g.outs.length c4] 31)).alloc (.cells #[.int .i64 0, .int .u8 0, .int .i64 0, .int .i64 0] 71)) #[.int .i64 0, .int .u8 0, .int .i64 0, .int .i64 0] := by
    have h3 := blkA_new 71 (w.alloc (.cells #[.string (str g.name), .slice a1 g.actors.length c1, .slice a2 g.edges.length c2, .slice a3 g.ins.length c3, .slice a4 g.outs.length c4] 31)) #[.int .i64 0, .int .u8 0, .int .i64 0, .int .i64 0]
    rw [World.size_alloc] at h3
    exact h3
  have NR := hiddenG nr
  have x1 := gg.cell (k := 1) rfl
  have x2 := gg.cell (k := 2) rfl
  have x3 := gg.cell (k := 3) rfl
  have x4 := gg.cell (k := 4) rfl
  have HD : Hid (manyF g = if 32 < g.actors.length then ⟨81, 1, 32, 0⟩ else if 96 < g.edges.length then ⟨81, 2, 96, 0⟩ else if 16 < g.ins.length then ⟨81, 3, 16, 0⟩ else if 16 < g.outs.length then ⟨81, 4, 16, 0⟩ else fl0) := by rfl
  clear ba gg nr
  generalize g.actors.length = n1 at *
  generalize g.edges.length = n2 at *
  generalize g.ins.length = n3 at *
  generalize g.outs.length = n4 at *
  by_cases k0 : 32 < n1
  · have i0 : (n1 : Int) > 32 := by omega
    go_enter Try.func68, Try.ntmps68
    go_upto_region 1 with fail
    generalize (w.alloc (.cells #[.string (str g.name), .slice a1 n1 c1, .slice a2 n2 c2, .slice a3 n3 c3, .slice a4 n4 c4] 31)).alloc (.cells #[.int .i64 0, .int .u8 0, .int .i64 0, .int .i64 0] 71) = W0 at *
    go_wp2_with (refine wpList_storeW _ rfl 71 (.tmp 2) (.tmp 7) rfl rfl (w.heap.size + 1) 71 _ _ rfl rfl NR.out sizX rfl rfl ?_; intro w9 hN hU; have N9 := hiddenG hN; have U9 := hiddenG hU; clear hN hU)
    have z0 : w9.cell? ⟨w.heap.size + 1, 0, none⟩ = some (.int .i64 81) := N9.out.cell rfl
    have z1 : w9.cell? ⟨w.heap.size + 1, 1, none⟩ = some (.int .u8 1) := N9.out.cell rfl
    have z2 : w9.cell? ⟨w.heap.size + 1, 2, none⟩ = some (.int .i64 32) := N9.out.cell rfl
    have z3 : w9.cell? ⟨w.heap.size + 1, 3, none⟩ = some (.int .i64 0) := N9.out.cell rfl
    refine bodyPost_ret (v := .agg #[.int .i64 81, .int .u8 1, .int .i64 32, .int .i64 0]) (by simp [results, Try.results68, go_sem, z0, z1, z2, z3]) rfl ?_
    exact ⟨by rw [HD.out, if_pos k0]; rfl, BA.out.trans (U9.out.below (Nat.le_succ _) BA.out.size)⟩
  · have i0 : ¬ (n1 : Int) > 32 := by omega
    by_cases k1 : 96 < n2
    · have i1 : (n2 : Int) > 96 := by omega
      go_enter Try.func68, Try.ntmps68
      go_upto_region 1 with fail
      generalize (w.alloc (.cells #[.string (str g.name), .slice a1 n1 c1, .slice a2 n2 c2, .slice a3 n3 c3, .slice a4 n4 c4] 31)).alloc (.cells #[.int .i64 0, .int .u8 0, .int .i64 0, .int .i64 0] 71) = W0 at *
      go_wp2_with (refine wpList_storeW _ rfl 71 (.tmp 2) (.tmp 12) rfl rfl (w.heap.size + 1) 71 _ _ rfl rfl NR.out sizX rfl rfl ?_; intro w9 hN hU; have N9 := hiddenG hN; have U9 := hiddenG hU; clear hN hU)
      have z0 : w9.cell? ⟨w.heap.size + 1, 0, none⟩ = some (.int .i64 81) := N9.out.cell rfl
      have z1 : w9.cell? ⟨w.heap.size + 1, 1, none⟩ = some (.int .u8 2) := N9.out.cell rfl
      have z2 : w9.cell? ⟨w.heap.size + 1, 2, none⟩ = some (.int .i64 96) := N9.out.cell rfl
      have z3 : w9.cell? ⟨w.heap.size + 1, 3, none⟩ = some (.int .i64 0) := N9.out.cell rfl
      refine bodyPost_ret (v := .agg #[.int .i64 81, .int .u8 2, .int .i64 96, .int .i64 0]) (by simp [results, Try.results68, go_sem, z0, z1, z2, z3]) rfl ?_
      exact ⟨by rw [HD.out, if_neg k0, if_pos k1]; rfl, BA.out.trans (U9.out.below (Nat.le_succ _) BA.out.size)⟩
    · have i1 : ¬ (n2 : Int) > 96 := by omega
      by_cases k2 : 16 < n3
      · have i2 : (n3 : Int) > 16 := by omega
        go_enter Try.func68, Try.ntmps68
        go_upto_region 1 with fail
        generalize (w.alloc (.cells #[.string (str g.name), .slice a1 n1 c1, .slice a2 n2 c2, .slice a3 n3 c3, .slice a4 n4 c4] 31)).alloc (.cells #[.int .i64 0, .int .u8 0, .int .i64 0, .int .i64 0] 71) = W0 at *
        go_wp2_with (refine wpList_storeW _ rfl 71 (.tmp 2) (.tmp 17) rfl rfl (w.heap.size + 1) 71 _ _ rfl rfl NR.out sizX rfl rfl ?_; intro w9 hN hU; have N9 := hiddenG hN; have U9 := hiddenG hU; clear hN hU)
        have z0 : w9.cell? ⟨w.heap.size + 1, 0, none⟩ = some (.int .i64 81) := N9.out.cell rfl
        have z1 : w9.cell? ⟨w.heap.size + 1, 1, none⟩ = some (.int .u8 3) := N9.out.cell rfl
        have z2 : w9.cell? ⟨w.heap.size + 1, 2, none⟩ = some (.int .i64 16) := N9.out.cell rfl
        have z3 : w9.cell? ⟨w.heap.size + 1, 3, none⟩ = some (.int .i64 0) := N9.out.cell rfl
        refine bodyPost_ret (v := .agg #[.int .i64 81, .int .u8 3, .int .i64 16, .int .i64 0]) (by simp [results, Try.results68, go_sem, z0, z1, z2, z3]) rfl ?_
        exact ⟨by rw [HD.out, if_neg k0, if_neg k1, if_pos k2]; rfl, BA.out.trans (U9.out.below (Nat.le_succ _) BA.out.size)⟩
      · have i2 : ¬ (n3 : Int) > 16 := by omega
        by_cases k3 : 16 < n4
        · have i3 : (n4 : Int) > 16 := by omega
          go_enter Try.func68, Try.ntmps68
          go_upto_region 1 with fail
          generalize (w.alloc (.cells #[.string (str g.name), .slice a1 n1 c1, .slice a2 n2 c2, .slice a3 n3 c3, .slice a4 n4 c4] 31)).alloc (.cells #[.int .i64 0, .int .u8 0, .int .i64 0, .int .i64 0] 71) = W0 at *
          go_wp2_with (refine wpList_storeW _ rfl 71 (.tmp 2) (.tmp 22) rfl rfl (w.heap.size + 1) 71 _ _ rfl rfl NR.out sizX rfl rfl ?_; intro w9 hN hU; have N9 := hiddenG hN; have U9 := hiddenG hU; clear hN hU)
          have z0 : w9.cell? ⟨w.heap.size + 1, 0, none⟩ = some (.int .i64 81) := N9.out.cell rfl
          have z1 : w9.cell? ⟨w.heap.size + 1, 1, none⟩ = some (.int .u8 4) := N9.out.cell rfl
          have z2 : w9.cell? ⟨w.heap.size + 1, 2, none⟩ = some (.int .i64 16) := N9.out.cell rfl
          have z3 : w9.cell? ⟨w.heap.size + 1, 3, none⟩ = some (.int .i64 0) := N9.out.cell rfl
          refine bodyPost_ret (v := .agg #[.int .i64 81, .int .u8 4, .int .i64 16, .int .i64 0]) (by simp [results, Try.results68, go_sem, z0, z1, z2, z3]) rfl ?_
          exact ⟨by rw [HD.out, if_neg k0, if_neg k1, if_neg k2, if_pos k3]; rfl, BA.out.trans (U9.out.below (Nat.le_succ _) BA.out.size)⟩
        · have i3 : ¬ (n4 : Int) > 16 := by omega
          go_enter Try.func68, Try.ntmps68
          go_upto_region 1 with fail
          generalize (w.alloc (.cells #[.string (str g.name), .slice a1 n1 c1, .slice a2 n2 c2, .slice a3 n3 c3, .slice a4 n4 c4] 31)).alloc (.cells #[.int .i64 0, .int .u8 0, .int .i64 0, .int .i64 0] 71) = W0 at *
          go_wp2_with (refine wpList_storeW _ rfl 71 (.tmp 2) (.tmp 23) rfl rfl (w.heap.size + 1) 71 _ _ rfl rfl NR.out sizX rfl rfl ?_; intro w9 hN hU; have N9 := hiddenG hN; have U9 := hiddenG hU; clear hN hU)
          have z0 : w9.cell? ⟨w.heap.size + 1, 0, none⟩ = some (.int .i64 0) := N9.out.cell rfl
          have z1 : w9.cell? ⟨w.heap.size + 1, 1, none⟩ = some (.int .u8 0) := N9.out.cell rfl
          have z2 : w9.cell? ⟨w.heap.size + 1, 2, none⟩ = some (.int .i64 0) := N9.out.cell rfl
          have z3 : w9.cell? ⟨w.heap.size + 1, 3, none⟩ = some (.int .i64 0) := N9.out.cell rfl
          refine bodyPost_ret (v := .agg #[.int .i64 0, .int .u8 0, .int .i64 0, .int .i64 0]) (by simp [results, Try.results68, go_sem, z0, z1, z2, z3]) rfl ?_
          exact ⟨by rw [HD.out, if_neg k0, if_neg k1, if_neg k2, if_neg k3]; rfl, BA.out.trans (U9.out.below (Nat.le_succ _) BA.out.size)⟩
theorem zero_loop' {f : Nat → Int × Nat} {k : Nat} : ∀ (n i : Nat), (∀ j, i ≤ j → j < i + n → (f j).1 = 0) → loopC n i f k = fl0
  | 0, _, _ => rfl
  | n + 1, i, h => by
    have e : loopC (n + 1) i f k = if (f i).1 ≠ 0 then ⟨(f i).1, k, i, (f i).2⟩ else loopC n (i + 1) f k := rfl
    rw [e, if_neg (fun q => q (h i (Nat.le_refl _) (by omega)))]
    exact zero_loop' n (i + 1) (fun j a b => h j (by omega) (by omega))
theorem step_stop {f : Nat → Int × Nat} {k n j : Nat} {R : FL} (hj : j < n) (h : (f j).1 ≠ 0) (ha : ∀ m, m < j → (f m).1 = 0) : (if (loopC n 0 f k).code ≠ 0 then loopC n 0 f k else R) = ⟨(f j).1, k, j, (f j).2⟩ := by
  have e := loop_stop (f := f) (k := k) n 0 j (Nat.zero_le _) (by omega) h (fun m _ b => ha m b)
  rw [e, if_pos h]
theorem step_on {f : Nat → Int × Nat} {k n : Nat} {R : FL} (ha : ∀ m, m < n → (f m).1 = 0) : (if (loopC n 0 f k).code ≠ 0 then loopC n 0 f k else R) = R := by
  rw [if_neg (fun q => q (zero_loop n 0 (fun j _ b => ha j (by omega))))]
def fS5 (g : GG) : FL := loopC g.actors.length 0 (openC g) 1
def fS4 (g : GG) : FL := if (loopC g.outs.length 0 (outC g) 4).code ≠ 0 then loopC g.outs.length 0 (outC g) 4 else fS5 g
def fS3 (g : GG) : FL := if (loopC g.ins.length 0 (inC g) 3).code ≠ 0 then loopC g.ins.length 0 (inC g) 3 else fS4 g
def fS2 (g : GG) : FL := if (loopC g.edges.length 0 (edgeC g) 2).code ≠ 0 then loopC g.edges.length 0 (edgeC g) 2 else fS3 g
def fS1 (g : GG) : FL := if (loopC g.actors.length 0 (fun i => (actorC g i, 0)) 1).code ≠ 0 then loopC g.actors.length 0 (fun i => (actorC g i, 0)) 1 else fS2 g
theorem find_head (g : GG) : findS g = if (headF g).code ≠ 0 then headF g else fS1 g := rfl
theorem head_many (g : GG) : headF g = if nameB g.name = false then ⟨82, 0, 0, 0⟩ else if g.actors.length = 0 then ⟨80, 0, 0, 0⟩ else manyF g := rfl
theorem find_name {g : GG} (h : nameB g.name = false) : findS g = ⟨82, 0, 0, 0⟩ := by rw [find_head, head_many, if_pos h]; rfl
theorem find_empty {g : GG} (h : nameB g.name = true) (h0 : g.actors.length = 0) : findS g = ⟨80, 0, 0, 0⟩ := by
  have e : headF g = ⟨80, 0, 0, 0⟩ := by rw [head_many, h, if_neg (by decide), if_pos h0]
  rw [find_head, e]; rfl
theorem find_many {g : GG} (h : nameB g.name = true) (h0 : g.actors.length ≠ 0) : findS g = if (manyF g).code ≠ 0 then manyF g else fS1 g := by
  have e : headF g = manyF g := by rw [head_many, h, if_neg (by decide), if_neg h0]
  rw [find_head, e]
/-- The two boxes of Find. -/
def FBox (w : World) (gv : Array Value) (u : World) : Prop := GBox w gv u ∧ BlkA 71 (w.heap.size + 1) u #[.int .i64 0, .int .u8 0, .int .i64 0, .int .i64 0]
theorem FBox.low {w u : World} {gv : Array Value} (h : FBox w gv u) : Below w.heap.size w u := h.1.2
theorem FBox.later {w u u' : World} {gv : Array Value} (h : FBox w gv u) (hb : Below u.heap.size u u') : FBox w gv u' := ⟨h.1.later hb, h.2.below hb⟩
theorem fbox_new (w : World) (gv : Array Value) : FBox w gv ((w.alloc (.cells gv 31)).alloc (.cells #[.int .i64 0, .int .u8 0, .int .i64 0, .int .i64 0] 71)) := by
  refine ⟨(gbox_new w gv).later ((Below.refl _ _).alloc (Nat.le_refl _) _), ?_⟩
  have h3 := blkA_new 71 (w.alloc (.cells gv 31)) #[.int .i64 0, .int .u8 0, .int .i64 0, .int .i64 0]
  rw [World.size_alloc] at h3
  exact h3
set_option maxRecDepth 100000 in
set_option maxHeartbeats 8000000 in
theorem find8_any (g : GG) (a1 a2 a3 a4 : Option Addr) (c1 c2 c3 c4 : Nat) (w : World) (h : GrG w a1 a2 a3 a4 g) :
    Calls Try.prog 36 #[.agg #[.string (str g.name), .slice a1 g.actors.length c1, .slice a2 g.edges.length c2, .slice a3 g.ins.length c3, .slice a4 g.outs.length c4]] w fun e w' => e = .returned (wV (findS g)) ∧ Below w.heap.size w w' := by
  have HG := hiddenG h
  have n1 : (g.actors.length : Int) ≤ 1000000000000000 := by have := h.l1; omega
  have n2 : (g.edges.length : Int) ≤ 1000000000000000 := by have := h.l2; omega
  have n3 : (g.ins.length : Int) ≤ 1000000000000000 := by have := h.l3; omega
  have n4 : (g.outs.length : Int) ≤ 1000000000000000 := by have := h.l4; omega
  have RN : Hid (∀ U, Calls Try.prog 67 #[.string (str g.name)] U fun e w' => e = .returned (.bool (nameB g.name)) ∧ U = w') := fun U => rname_any _ U
  have MN0 : ∀ U, Calls Try.prog 68 #[.agg #[.string (str g.name), .slice a1 g.actors.length c1, .slice a2 g.edges.length c2, .slice a3 g.ins.length c3, .slice a4 g.outs.length c4]] U fun e w' => e = .returned (wV (manyF g)) ∧ Below U.heap.size U w' := fun U => many8_any g a1 a2 a3 a4 c1 c2 c3 c4 U h.l1 h.l2 h.l3 h.l4
  have Cactor : Hid (∀ U (k : Nat), Below w.heap.size w U → k < g.actors.length → Calls Try.prog 69 #[.agg #[.string (str g.name), .slice a1 g.actors.length c1, .slice a2 g.edges.length c2, .slice a3 g.ins.length c3, .slice a4 g.outs.length c4], .int .i64 (k : Int)] U fun e w' => e = .returned (.int .i64 (actorC g k)) ∧ Below U.heap.size U w') := fun U k hb hk => actor8_any g a1 a2 a3 a4 c1 c2 c3 c4 k U (HG.out.below hb) hk
  have Cedge : Hid (∀ U (k : Nat), Below w.heap.size w U → k < g.edges.length → Calls Try.prog 70 #[.agg #[.string (str g.name), .slice a1 g.actors.length c1, .slice a2 g.edges.length c2, .slice a3 g.ins.length c3, .slice a4 g.outs.length c4], .int .i64 (k : Int)] U fun e w' => e = .returned (.tuple #[.int .i64 (edgeC g k).1, .int .i64 ((edgeC g k).2 : Int)]) ∧ Below U.heap.size U w') := fun U k hb hk => edge8_any g a1 a2 a3 a4 c1 c2 c3 c4 k U (HG.out.below hb) hk
  have Cin : Hid (∀ U (k : Nat), Below w.heap.size w U → k < g.ins.length → Calls Try.prog 71 #[.agg #[.string (str g.name), .slice a1 g.actors.length c1, .slice a2 g.edges.length c2, .slice a3 g.ins.length c3, .slice a4 g.outs.length c4], .int .i64 (k : Int)] U fun e w' => e = .returned (.tuple #[.int .i64 (inC g k).1, .int .i64 ((inC g k).2 : Int)]) ∧ Below U.heap.size U w') := fun U k hb hk => in8_any g a1 a2 a3 a4 c1 c2 c3 c4 k U (HG.out.below hb) hk
  have Cout : Hid (∀ U (k : Nat), Below w.heap.size w U → k < g.outs.length → Calls Try.prog 72 #[.agg #[.string (str g.name), .slice a1 g.actors.length c1, .slice a2 g.edges.length c2, .slice a3 g.ins.length c3, .slice a4 g.outs.length c4], .int .i64 (k : Int)] U fun e w' => e = .returned (.tuple #[.int .i64 (outC g k).1, .int .i64 ((outC g k).2 : Int)]) ∧ Below U.heap.size U w') := fun U k hb hk => out8_any g a1 a2 a3 a4 c1 c2 c3 c4 k U (HG.out.below hb) hk
  have Copen : Hid (∀ U (k : Nat), Below w.heap.size w U → k < g.actors.length → Calls Try.prog 73 #[.agg #[.string (str g.name), .slice a1 g.actors.length c1, .slice a2 g.edges.length c2, .slice a3 g.ins.length c3, .slice a4 g.outs.length c4], .int .i64 (k : Int)] U fun e w' => e = .returned (.bool (openB g k)) ∧ Below U.heap.size U w') := fun U k hb hk => open8_any g a1 a2 a3 a4 c1 c2 c3 c4 k U (HG.out.below hb) hk
  have B0 := hiddenG (fbox_new w #[.string (str g.name), .slice a1 g.actors.length c1, .slice a2 g.edges.length c2, .slice a3 g.ins.length c3, .slice a4 g.outs.length c4])
  have FN : Hid (nameB g.name = false → findS g = ⟨82, 0, 0, 0⟩) := find_name
  have FE : Hid (nameB g.name = true → g.actors.length = 0 → findS g = ⟨80, 0, 0, 0⟩) := find_empty
  have FM : Hid (nameB g.name = true → g.actors.length ≠ 0 → findS g = if (manyF g).code ≠ 0 then manyF g else fS1 g) := find_many
  clear h HG
  generalize nameB g.name = q0 at *
  cases q0
  · have F0 : Hid (findS g = ⟨82, 0, 0, 0⟩) := FN.out rfl
    clear FN FE FM MN0
    go_enter Try.func36, Try.ntmps36
    go_upto_region 1 with fail
    generalize (w.alloc (.cells #[.string (str g.name), .slice a1 g.actors.length c1, .slice a2 g.edges.length c2, .slice a3 g.ins.length c3, .slice a4 g.outs.length c4] 31)).alloc (.cells #[.int .i64 0, .int .u8 0, .int .i64 0, .int .i64 0] 71) = W0 at *
    have g0 : W0.cell? ⟨w.heap.size, 0, none⟩ = some (.string (str g.name)) := B0.out.1.1.cell rfl
    have g1 : W0.cell? ⟨w.heap.size, 1, none⟩ = some (.slice a1 g.actors.length c1) := B0.out.1.1.cell rfl
    have g2 : W0.cell? ⟨w.heap.size, 2, none⟩ = some (.slice a2 g.edges.length c2) := B0.out.1.1.cell rfl
    have g3 : W0.cell? ⟨w.heap.size, 3, none⟩ = some (.slice a3 g.ins.length c3) := B0.out.1.1.cell rfl
    have g4 : W0.cell? ⟨w.heap.size, 4, none⟩ = some (.slice a4 g.outs.length c4) := B0.out.1.1.cell rfl
    go_wp2_with (first
      | (refine wpList_storeW _ rfl 71 (.tmp 2) (.tmp 20) rfl rfl (w.heap.size + 1) 71 _ _ rfl rfl B0.out.2 sizX rfl rfl ?_; intro w9 hN hU; have N9 := hiddenG hN; have U9 := hiddenG hU; clear hN hU)
      | (go_at_call 67; (with_reducible refine (RN.out _).mono ?_); rintro e w' ⟨rfl, rfl⟩))
    have z0 : w9.cell? ⟨w.heap.size + 1, 0, none⟩ = some (.int .i64 82) := N9.out.cell rfl
    have z1 : w9.cell? ⟨w.heap.size + 1, 1, none⟩ = some (.int .u8 0) := N9.out.cell rfl
    have z2 : w9.cell? ⟨w.heap.size + 1, 2, none⟩ = some (.int .i64 0) := N9.out.cell rfl
    have z3 : w9.cell? ⟨w.heap.size + 1, 3, none⟩ = some (.int .i64 0) := N9.out.cell rfl
    refine bodyPost_ret (v := .agg #[.int .i64 82, .int .u8 0, .int .i64 0, .int .i64 0]) (by simp [results, Try.results36, go_sem, z0, z1, z2, z3]) rfl ?_
    exact ⟨by rw [F0.out]; rfl, B0.out.low.trans (U9.out.below (Nat.le_succ _) B0.out.low.size)⟩
  by_cases hz : g.actors.length = 0
  · have F0 : Hid (findS g = ⟨80, 0, 0, 0⟩) := FE.out rfl hz
    have j0 : ((g.actors.length : Int) == 0) = true := by simpa using hz
    clear FN FE FM MN0 hz
    go_enter Try.func36, Try.ntmps36
    go_upto_region 1 with fail
    generalize (w.alloc (.cells #[.string (str g.name), .slice a1 g.actors.length c1, .slice a2 g.edges.length c2, .slice a3 g.ins.length c3, .slice a4 g.outs.length c4] 31)).alloc (.cells #[.int .i64 0, .int .u8 0, .int .i64 0, .int .i64 0] 71) = W0 at *
    have g0 : W0.cell? ⟨w.heap.size, 0, none⟩ = some (.string (str g.name)) := B0.out.1.1.cell rfl
    have g1 : W0.cell? ⟨w.heap.size, 1, none⟩ = some (.slice a1 g.actors.length c1) := B0.out.1.1.cell rfl
    have g2 : W0.cell? ⟨w.heap.size, 2, none⟩ = some (.slice a2 g.edges.length c2) := B0.out.1.1.cell rfl
    have g3 : W0.cell? ⟨w.heap.size, 3, none⟩ = some (.slice a3 g.ins.length c3) := B0.out.1.1.cell rfl
    have g4 : W0.cell? ⟨w.heap.size, 4, none⟩ = some (.slice a4 g.outs.length c4) := B0.out.1.1.cell rfl
    go_wp2_with (first
      | (refine wpList_storeW _ rfl 71 (.tmp 2) (.tmp 25) rfl rfl (w.heap.size + 1) 71 _ _ rfl rfl B0.out.2 sizX rfl rfl ?_; intro w9 hN hU; have N9 := hiddenG hN; have U9 := hiddenG hU; clear hN hU)
      | (go_at_call 67; (with_reducible refine (RN.out _).mono ?_); rintro e w' ⟨rfl, rfl⟩))
    have z0 : w9.cell? ⟨w.heap.size + 1, 0, none⟩ = some (.int .i64 80) := N9.out.cell rfl
    have z1 : w9.cell? ⟨w.heap.size + 1, 1, none⟩ = some (.int .u8 0) := N9.out.cell rfl
    have z2 : w9.cell? ⟨w.heap.size + 1, 2, none⟩ = some (.int .i64 0) := N9.out.cell rfl
    have z3 : w9.cell? ⟨w.heap.size + 1, 3, none⟩ = some (.int .i64 0) := N9.out.cell rfl
    refine bodyPost_ret (v := .agg #[.int .i64 80, .int .u8 0, .int .i64 0, .int .i64 0]) (by simp [results, Try.results36, go_sem, z0, z1, z2, z3]) rfl ?_
    exact ⟨by rw [F0.out]; rfl, B0.out.low.trans (U9.out.below (Nat.le_succ _) B0.out.low.size)⟩
  have j0 : ((g.actors.length : Int) == 0) = false := by simpa using hz
  have F1 : Hid (findS g = if (manyF g).code ≠ 0 then manyF g else fS1 g) := FM.out rfl hz
  obtain ⟨mf, hmf⟩ : ∃ q, manyF g = q := ⟨_, rfl⟩
  rw [hmf] at F1 MN0
  clear hmf FN FE FM hz
  obtain ⟨mc, mk, mn, ms⟩ := mf
  have MN : Hid (∀ U, Calls Try.prog 68 #[.agg #[.string (str g.name), .slice a1 g.actors.length c1, .slice a2 g.edges.length c2, .slice a3 g.ins.length c3, .slice a4 g.outs.length c4]] U fun e w' => e = .returned (.agg #[.int .i64 mc, .int .u8 (mk : Int), .int .i64 (mn : Int), .int .i64 (ms : Int)]) ∧ Below U.heap.size U w') := MN0
  clear MN0
  have FY : Hid (mc ≠ 0 → findS g = ⟨mc, mk, mn, ms⟩) := fun e => by rw [F1.out, if_pos e]
  have FO : Hid (mc = 0 → findS g = fS1 g) := fun e => by rw [F1.out, if_neg (fun q => q e)]
  clear F1
  go_enter Try.func36, Try.ntmps36
  go_upto_region 1 with fail
  generalize (w.alloc (.cells #[.string (str g.name), .slice a1 g.actors.length c1, .slice a2 g.edges.length c2, .slice a3 g.ins.length c3, .slice a4 g.outs.length c4] 31)).alloc (.cells #[.int .i64 0, .int .u8 0, .int .i64 0, .int .i64 0] 71) = W0 at *
  have g0 : W0.cell? ⟨w.heap.size, 0, none⟩ = some (.string (str g.name)) := B0.out.1.1.cell rfl
  have g1 : W0.cell? ⟨w.heap.size, 1, none⟩ = some (.slice a1 g.actors.length c1) := B0.out.1.1.cell rfl
  have g2 : W0.cell? ⟨w.heap.size, 2, none⟩ = some (.slice a2 g.edges.length c2) := B0.out.1.1.cell rfl
  have g3 : W0.cell? ⟨w.heap.size, 3, none⟩ = some (.slice a3 g.ins.length c3) := B0.out.1.1.cell rfl
  have g4 : W0.cell? ⟨w.heap.size, 4, none⟩ = some (.slice a4 g.outs.length c4) := B0.out.1.1.cell rfl
  go_upto_region 6 with (first
    | (go_at_call 68; (with_reducible refine (MN.out _).mono ?_); rintro e w1 ⟨rfl, b1⟩; have B1 := hiddenG (B0.out.later b1); clear b1)
    | (go_at_call 67; (with_reducible refine (RN.out _).mono ?_); rintro e w' ⟨rfl, rfl⟩))
  have BX := hiddenG (blkA_new 71 w1 #[.int .i64 mc, .int .u8 (mk : Int), .int .i64 (mn : Int), .int .i64 (ms : Int)])
  have B2 := hiddenG (B1.out.later ((Below.refl _ _).alloc (Nat.le_refl _) (.cells #[.int .i64 mc, .int .u8 (mk : Int), .int .i64 (mn : Int), .int .i64 (ms : Int)] 71)))
  generalize w1.alloc (.cells #[.int .i64 mc, .int .u8 (mk : Int), .int .i64 (mn : Int), .int .i64 (ms : Int)] 71) = V at *
  have m0 := BX.out.cell (k := 0) rfl
  have m1 := BX.out.cell (k := 1) rfl
  have m2 := BX.out.cell (k := 2) rfl
  have m3 := BX.out.cell (k := 3) rfl
  clear g0 g1 g2 g3 g4 BX MN RN j0
  by_cases hm : mc = 0
  · subst hm
    have FS1 : Hid (findS g = fS1 g) := FO.out rfl
    clear FO FY
    go_wp2
    clear m0 m1 m2 m3
    go_loopg [4] g.actors.length (fun gk v wr => ∃ k : Nat, k ≤ g.actors.length ∧ gk = g.actors.length - k ∧ v = .int .i64 (k : Int) ∧ FBox w #[.string (str g.name), .slice a1 g.actors.length c1, .slice a2 g.edges.length c2, .slice a3 g.ins.length c3, .slice a4 g.outs.length c4] wr ∧ ∀ j : Nat, j < k → ((fun i => (actorC g i, 0)) j).1 = 0)
    case atStart => exact ⟨0, Nat.zero_le _, rfl, rfl, B2.out, fun j hj => absurd hj (Nat.not_lt_zero _)⟩
    case round =>
      clear B2 B1 B0
      obtain ⟨k, hk, rfl, rfl, hB, hall⟩ := hrel
      have HB := hiddenG hB
      have HAL := hiddenG hall
      have g0 : wr.cell? ⟨w.heap.size, 0, none⟩ = some (.string (str g.name)) := hB.1.1.cell rfl
      have g1 : wr.cell? ⟨w.heap.size, 1, none⟩ = some (.slice a1 g.actors.length c1) := hB.1.1.cell rfl
      have g2 : wr.cell? ⟨w.heap.size, 2, none⟩ = some (.slice a2 g.edges.length c2) := hB.1.1.cell rfl
      have g3 : wr.cell? ⟨w.heap.size, 3, none⟩ = some (.slice a3 g.ins.length c3) := hB.1.1.cell rfl
      have g4 : wr.cell? ⟨w.heap.size, 4, none⟩ = some (.slice a4 g.outs.length c4) := hB.1.1.cell rfl
      clear hB hall
      by_cases hlt : k < g.actors.length
      · have hki : (k : Int) < (g.actors.length : Int) := by omega
        have HNO : Hid (((fun i => (actorC g i, 0)) k).1 = 0 → ∀ j : Nat, j < k + 1 → ((fun i => (actorC g i, 0)) j).1 = 0) := fun e j hj => by
          by_cases q : j < k
          · exact HAL.out j q
          · rw [show j = k by omega]; exact e
        have CK := hiddenG (Cactor.out wr k HB.out.low hlt)
        have HYES : Hid (((fun i => (actorC g i, 0)) k).1 ≠ 0 → findS g = ⟨((fun i => (actorC g i, 0)) k).1, 1, k, ((fun i => (actorC g i, 0)) k).2⟩) := fun e => by rw [FS1.out]; unfold fS1; rw [step_stop hlt e HAL.out]
        obtain ⟨q1, hq1⟩ : ∃ q, actorC g k = q := ⟨_, rfl⟩
        simp only [hq1] at HYES HNO CK
        clear hq1
        by_cases hc : q1 = 0
        · subst hc
          clear HYES
          go_wp2_with (go_at_call 69; (with_reducible refine CK.out.mono ?_); rintro e w3 ⟨rfl, b3⟩; have B3 := hiddenG (HB.out.later b3); clear b3)
          go_roundg (g.actors.length - (k + 1))
          case measure => omega
          case rel => exact ⟨k + 1, by omega, rfl, by go_num, B3.out, HNO.out (by trivial)⟩
        · have hc2 : (q1 != 0) = true := by simpa using hc
          have F3 := hiddenG (HYES.out hc)
          clear HYES HNO
          go_wp2_with (first
            | (refine wpList_storeW _ rfl 71 (.tmp 2) (.tmp 46) rfl rfl (w.heap.size + 1) 71 _ _ rfl rfl B3.out.2 sizX rfl rfl ?_; intro w9 hN hU; have N9 := hiddenG hN; have U9 := hiddenG hU; clear hN hU)
            | (go_at_call 69; (with_reducible refine CK.out.mono ?_); rintro e w3 ⟨rfl, b3⟩; have B3 := hiddenG (HB.out.later b3); clear b3))
          have z0 : w9.cell? ⟨w.heap.size + 1, 0, none⟩ = some (.int .i64 q1) := N9.out.cell rfl
          have z1 : w9.cell? ⟨w.heap.size + 1, 1, none⟩ = some (.int .u8 1) := N9.out.cell rfl
          have z2 : w9.cell? ⟨w.heap.size + 1, 2, none⟩ = some (.int .i64 (k : Int)) := N9.out.cell rfl
          have z3 : w9.cell? ⟨w.heap.size + 1, 3, none⟩ = some (.int .i64 0) := N9.out.cell rfl
          refine bodyPost_ret (v := .agg #[.int .i64 q1, .int .u8 1, .int .i64 (k : Int), .int .i64 0]) (by simp [results, Try.results36, go_sem, z0, z1, z2, z3]) rfl ?_
          exact ⟨by rw [F3.out]; rfl, B3.out.low.trans (U9.out.below (Nat.le_succ _) B3.out.low.size)⟩
      · have hki : ¬ (k : Int) < (g.actors.length : Int) := by omega
        have FS2 : Hid (findS g = fS2 g) := by show _ = _; rw [FS1.out]; unfold fS1; rw [step_on (fun m b => HAL.out m (by omega))]
        clear HAL hlt hk FS1
        go_wp2
        clear g0 g1 g2 g3 g4
        go_loopg [6] g.edges.length (fun gk v wr => ∃ k : Nat, k ≤ g.edges.length ∧ gk = g.edges.length - k ∧ v = .int .i64 (k : Int) ∧ FBox w #[.string (str g.name), .slice a1 g.actors.length c1, .slice a2 g.edges.length c2, .slice a3 g.ins.length c3, .slice a4 g.outs.length c4] wr ∧ ∀ j : Nat, j < k → ((edgeC g) j).1 = 0)
        case atStart => exact ⟨0, Nat.zero_le _, rfl, rfl, HB.out, fun j hj => absurd hj (Nat.not_lt_zero _)⟩
        case round =>
          clear HB hki
          obtain ⟨k, hk, rfl, rfl, hB, hall⟩ := hrel
          have HB := hiddenG hB
          have HAL := hiddenG hall
          have g0 : wr.cell? ⟨w.heap.size, 0, none⟩ = some (.string (str g.name)) := hB.1.1.cell rfl
          have g1 : wr.cell? ⟨w.heap.size, 1, none⟩ = some (.slice a1 g.actors.length c1) := hB.1.1.cell rfl
          have g2 : wr.cell? ⟨w.heap.size, 2, none⟩ = some (.slice a2 g.edges.length c2) := hB.1.1.cell rfl
          have g3 : wr.cell? ⟨w.heap.size, 3, none⟩ = some (.slice a3 g.ins.length c3) := hB.1.1.cell rfl
          have g4 : wr.cell? ⟨w.heap.size, 4, none⟩ = some (.slice a4 g.outs.length c4) := hB.1.1.cell rfl
          clear hB hall
          by_cases hlt : k < g.edges.length
          · have hki : (k : Int) < (g.edges.length : Int) := by omega
            have HNO : Hid (((edgeC g) k).1 = 0 → ∀ j : Nat, j < k + 1 → ((edgeC g) j).1 = 0) := fun e j hj => by
              by_cases q : j < k
              · exact HAL.out j q
              · rw [show j = k by omega]; exact e
            have CK := hiddenG (Cedge.out wr k HB.out.low hlt)
            have HYES : Hid (((edgeC g) k).1 ≠ 0 → findS g = ⟨((edgeC g) k).1, 2, k, ((edgeC g) k).2⟩) := fun e => by rw [FS2.out]; unfold fS2; rw [step_stop hlt e HAL.out]
            obtain ⟨q1, hq1⟩ : ∃ q, edgeC g k = q := ⟨_, rfl⟩
            simp only [hq1] at HYES HNO CK
            clear hq1
            obtain ⟨q1, sx⟩ := q1
            simp only at HYES HNO CK
            by_cases hc : q1 = 0
            · subst hc
              clear HYES
              go_wp2_with (go_at_call 70; (with_reducible refine CK.out.mono ?_); rintro e w3 ⟨rfl, b3⟩; have B3 := hiddenG (HB.out.later b3); clear b3)
              go_roundg (g.edges.length - (k + 1))
              case measure => omega
              case rel => exact ⟨k + 1, by omega, rfl, by go_num, B3.out, HNO.out (by trivial)⟩
            · have hc2 : (q1 != 0) = true := by simpa using hc
              have F3 := hiddenG (HYES.out hc)
              clear HYES HNO
              go_wp2_with (first
                | (refine wpList_storeW _ rfl 71 (.tmp 2) (.tmp 65) rfl rfl (w.heap.size + 1) 71 _ _ rfl rfl B3.out.2 sizX rfl rfl ?_; intro w9 hN hU; have N9 := hiddenG hN; have U9 := hiddenG hU; clear hN hU)
                | (go_at_call 70; (with_reducible refine CK.out.mono ?_); rintro e w3 ⟨rfl, b3⟩; have B3 := hiddenG (HB.out.later b3); clear b3))
              have z0 : w9.cell? ⟨w.heap.size + 1, 0, none⟩ = some (.int .i64 q1) := N9.out.cell rfl
              have z1 : w9.cell? ⟨w.heap.size + 1, 1, none⟩ = some (.int .u8 2) := N9.out.cell rfl
              have z2 : w9.cell? ⟨w.heap.size + 1, 2, none⟩ = some (.int .i64 (k : Int)) := N9.out.cell rfl
              have z3 : w9.cell? ⟨w.heap.size + 1, 3, none⟩ = some (.int .i64 (sx : Int)) := N9.out.cell rfl
              refine bodyPost_ret (v := .agg #[.int .i64 q1, .int .u8 2, .int .i64 (k : Int), .int .i64 (sx : Int)]) (by simp [results, Try.results36, go_sem, z0, z1, z2, z3]) rfl ?_
              exact ⟨by rw [F3.out]; rfl, B3.out.low.trans (U9.out.below (Nat.le_succ _) B3.out.low.size)⟩
          · have hki : ¬ (k : Int) < (g.edges.length : Int) := by omega
            have FS3 : Hid (findS g = fS3 g) := by show _ = _; rw [FS2.out]; unfold fS2; rw [step_on (fun m b => HAL.out m (by omega))]
            clear HAL hlt hk FS2
            go_wp2
            clear g0 g1 g2 g3 g4
            go_loopg [9] g.ins.length (fun gk v wr => ∃ k : Nat, k ≤ g.ins.length ∧ gk = g.ins.length - k ∧ v = .int .i64 (k : Int) ∧ FBox w #[.string (str g.name), .slice a1 g.actors.length c1, .slice a2 g.edges.length c2, .slice a3 g.ins.length c3, .slice a4 g.outs.length c4] wr ∧ ∀ j : Nat, j < k → ((inC g) j).1 = 0)
            case atStart => exact ⟨0, Nat.zero_le _, rfl, rfl, HB.out, fun j hj => absurd hj (Nat.not_lt_zero _)⟩
            case round =>
              clear HB hki
              obtain ⟨k, hk, rfl, rfl, hB, hall⟩ := hrel
              have HB := hiddenG hB
              have HAL := hiddenG hall
              have g0 : wr.cell? ⟨w.heap.size, 0, none⟩ = some (.string (str g.name)) := hB.1.1.cell rfl
              have g1 : wr.cell? ⟨w.heap.size, 1, none⟩ = some (.slice a1 g.actors.length c1) := hB.1.1.cell rfl
              have g2 : wr.cell? ⟨w.heap.size, 2, none⟩ = some (.slice a2 g.edges.length c2) := hB.1.1.cell rfl
              have g3 : wr.cell? ⟨w.heap.size, 3, none⟩ = some (.slice a3 g.ins.length c3) := hB.1.1.cell rfl
              have g4 : wr.cell? ⟨w.heap.size, 4, none⟩ = some (.slice a4 g.outs.length c4) := hB.1.1.cell rfl
              clear hB hall
              by_cases hlt : k < g.ins.length
              · have hki : (k : Int) < (g.ins.length : Int) := by omega
                have HNO : Hid (((inC g) k).1 = 0 → ∀ j : Nat, j < k + 1 → ((inC g) j).1 = 0) := fun e j hj => by
                  by_cases q : j < k
                  · exact HAL.out j q
                  · rw [show j = k by omega]; exact e
                have CK := hiddenG (Cin.out wr k HB.out.low hlt)
                have HYES : Hid (((inC g) k).1 ≠ 0 → findS g = ⟨((inC g) k).1, 3, k, ((inC g) k).2⟩) := fun e => by rw [FS3.out]; unfold fS3; rw [step_stop hlt e HAL.out]
                obtain ⟨q1, hq1⟩ : ∃ q, inC g k = q := ⟨_, rfl⟩
                simp only [hq1] at HYES HNO CK
                clear hq1
                obtain ⟨q1, sx⟩ := q1
                simp only at HYES HNO CK
                by_cases hc : q1 = 0
                · subst hc
                  clear HYES
                  go_wp2_with (go_at_call 71; (with_reducible refine CK.out.mono ?_); rintro e w3 ⟨rfl, b3⟩; have B3 := hiddenG (HB.out.later b3); clear b3)
                  go_roundg (g.ins.length - (k + 1))
                  case measure => omega
                  case rel => exact ⟨k + 1, by omega, rfl, by go_num, B3.out, HNO.out (by trivial)⟩
                · have hc2 : (q1 != 0) = true := by simpa using hc
                  have F3 := hiddenG (HYES.out hc)
                  clear HYES HNO
                  go_wp2_with (first
                    | (refine wpList_storeW _ rfl 71 (.tmp 2) (.tmp 84) rfl rfl (w.heap.size + 1) 71 _ _ rfl rfl B3.out.2 sizX rfl rfl ?_; intro w9 hN hU; have N9 := hiddenG hN; have U9 := hiddenG hU; clear hN hU)
                    | (go_at_call 71; (with_reducible refine CK.out.mono ?_); rintro e w3 ⟨rfl, b3⟩; have B3 := hiddenG (HB.out.later b3); clear b3))
                  have z0 : w9.cell? ⟨w.heap.size + 1, 0, none⟩ = some (.int .i64 q1) := N9.out.cell rfl
                  have z1 : w9.cell? ⟨w.heap.size + 1, 1, none⟩ = some (.int .u8 3) := N9.out.cell rfl
                  have z2 : w9.cell? ⟨w.heap.size + 1, 2, none⟩ = some (.int .i64 (k : Int)) := N9.out.cell rfl
                  have z3 : w9.cell? ⟨w.heap.size + 1, 3, none⟩ = some (.int .i64 (sx : Int)) := N9.out.cell rfl
                  refine bodyPost_ret (v := .agg #[.int .i64 q1, .int .u8 3, .int .i64 (k : Int), .int .i64 (sx : Int)]) (by simp [results, Try.results36, go_sem, z0, z1, z2, z3]) rfl ?_
                  exact ⟨by rw [F3.out]; rfl, B3.out.low.trans (U9.out.below (Nat.le_succ _) B3.out.low.size)⟩
              · have hki : ¬ (k : Int) < (g.ins.length : Int) := by omega
                have FS4 : Hid (findS g = fS4 g) := by show _ = _; rw [FS3.out]; unfold fS3; rw [step_on (fun m b => HAL.out m (by omega))]
                clear HAL hlt hk FS3
                go_wp2
                clear g0 g1 g2 g3 g4
                go_loopg [12] g.outs.length (fun gk v wr => ∃ k : Nat, k ≤ g.outs.length ∧ gk = g.outs.length - k ∧ v = .int .i64 (k : Int) ∧ FBox w #[.string (str g.name), .slice a1 g.actors.length c1, .slice a2 g.edges.length c2, .slice a3 g.ins.length c3, .slice a4 g.outs.length c4] wr ∧ ∀ j : Nat, j < k → ((outC g) j).1 = 0)
                case atStart => exact ⟨0, Nat.zero_le _, rfl, rfl, HB.out, fun j hj => absurd hj (Nat.not_lt_zero _)⟩
                case round =>
                  clear HB hki
                  obtain ⟨k, hk, rfl, rfl, hB, hall⟩ := hrel
                  have HB := hiddenG hB
                  have HAL := hiddenG hall
                  have g0 : wr.cell? ⟨w.heap.size, 0, none⟩ = some (.string (str g.name)) := hB.1.1.cell rfl
                  have g1 : wr.cell? ⟨w.heap.size, 1, none⟩ = some (.slice a1 g.actors.length c1) := hB.1.1.cell rfl
                  have g2 : wr.cell? ⟨w.heap.size, 2, none⟩ = some (.slice a2 g.edges.length c2) := hB.1.1.cell rfl
                  have g3 : wr.cell? ⟨w.heap.size, 3, none⟩ = some (.slice a3 g.ins.length c3) := hB.1.1.cell rfl
                  have g4 : wr.cell? ⟨w.heap.size, 4, none⟩ = some (.slice a4 g.outs.length c4) := hB.1.1.cell rfl
                  clear hB hall
                  by_cases hlt : k < g.outs.length
                  · have hki : (k : Int) < (g.outs.length : Int) := by omega
                    have HNO : Hid (((outC g) k).1 = 0 → ∀ j : Nat, j < k + 1 → ((outC g) j).1 = 0) := fun e j hj => by
                      by_cases q : j < k
                      · exact HAL.out j q
                      · rw [show j = k by omega]; exact e
                    have CK := hiddenG (Cout.out wr k HB.out.low hlt)
                    have HYES : Hid (((outC g) k).1 ≠ 0 → findS g = ⟨((outC g) k).1, 4, k, ((outC g) k).2⟩) := fun e => by rw [FS4.out]; unfold fS4; rw [step_stop hlt e HAL.out]
                    obtain ⟨q1, hq1⟩ : ∃ q, outC g k = q := ⟨_, rfl⟩
                    simp only [hq1] at HYES HNO CK
                    clear hq1
                    obtain ⟨q1, sx⟩ := q1
                    simp only at HYES HNO CK
                    by_cases hc : q1 = 0
                    · subst hc
                      clear HYES
                      go_wp2_with (go_at_call 72; (with_reducible refine CK.out.mono ?_); rintro e w3 ⟨rfl, b3⟩; have B3 := hiddenG (HB.out.later b3); clear b3)
                      go_roundg (g.outs.length - (k + 1))
                      case measure => omega
                      case rel => exact ⟨k + 1, by omega, rfl, by go_num, B3.out, HNO.out (by trivial)⟩
                    · have hc2 : (q1 != 0) = true := by simpa using hc
                      have F3 := hiddenG (HYES.out hc)
                      clear HYES HNO
                      go_wp2_with (first
                        | (refine wpList_storeW _ rfl 71 (.tmp 2) (.tmp 103) rfl rfl (w.heap.size + 1) 71 _ _ rfl rfl B3.out.2 sizX rfl rfl ?_; intro w9 hN hU; have N9 := hiddenG hN; have U9 := hiddenG hU; clear hN hU)
                        | (go_at_call 72; (with_reducible refine CK.out.mono ?_); rintro e w3 ⟨rfl, b3⟩; have B3 := hiddenG (HB.out.later b3); clear b3))
                      have z0 : w9.cell? ⟨w.heap.size + 1, 0, none⟩ = some (.int .i64 q1) := N9.out.cell rfl
                      have z1 : w9.cell? ⟨w.heap.size + 1, 1, none⟩ = some (.int .u8 4) := N9.out.cell rfl
                      have z2 : w9.cell? ⟨w.heap.size + 1, 2, none⟩ = some (.int .i64 (k : Int)) := N9.out.cell rfl
                      have z3 : w9.cell? ⟨w.heap.size + 1, 3, none⟩ = some (.int .i64 (sx : Int)) := N9.out.cell rfl
                      refine bodyPost_ret (v := .agg #[.int .i64 q1, .int .u8 4, .int .i64 (k : Int), .int .i64 (sx : Int)]) (by simp [results, Try.results36, go_sem, z0, z1, z2, z3]) rfl ?_
                      exact ⟨by rw [F3.out]; rfl, B3.out.low.trans (U9.out.below (Nat.le_succ _) B3.out.low.size)⟩
                  · have hki : ¬ (k : Int) < (g.outs.length : Int) := by omega
                    have FS5 : Hid (findS g = fS5 g) := by show _ = _; rw [FS4.out]; unfold fS4; rw [step_on (fun m b => HAL.out m (by omega))]
                    clear HAL hlt hk FS4
                    go_wp2
                    clear g0 g1 g2 g3 g4
                    go_loopg [15] g.actors.length (fun gk v wr => ∃ k : Nat, k ≤ g.actors.length ∧ gk = g.actors.length - k ∧ v = .int .i64 (k : Int) ∧ FBox w #[.string (str g.name), .slice a1 g.actors.length c1, .slice a2 g.edges.length c2, .slice a3 g.ins.length c3, .slice a4 g.outs.length c4] wr ∧ ∀ j : Nat, j < k → ((openC g) j).1 = 0)
                    case atStart => exact ⟨0, Nat.zero_le _, rfl, rfl, HB.out, fun j hj => absurd hj (Nat.not_lt_zero _)⟩
                    case round =>
                      clear HB hki
                      obtain ⟨k, hk, rfl, rfl, hB, hall⟩ := hrel
                      have HB := hiddenG hB
                      have HAL := hiddenG hall
                      have g0 : wr.cell? ⟨w.heap.size, 0, none⟩ = some (.string (str g.name)) := hB.1.1.cell rfl
                      have g1 : wr.cell? ⟨w.heap.size, 1, none⟩ = some (.slice a1 g.actors.length c1) := hB.1.1.cell rfl
                      have g2 : wr.cell? ⟨w.heap.size, 2, none⟩ = some (.slice a2 g.edges.length c2) := hB.1.1.cell rfl
                      have g3 : wr.cell? ⟨w.heap.size, 3, none⟩ = some (.slice a3 g.ins.length c3) := hB.1.1.cell rfl
                      have g4 : wr.cell? ⟨w.heap.size, 4, none⟩ = some (.slice a4 g.outs.length c4) := hB.1.1.cell rfl
                      clear hB hall
                      by_cases hlt : k < g.actors.length
                      · have hki : (k : Int) < (g.actors.length : Int) := by omega
                        have HNO : Hid (((openC g) k).1 = 0 → ∀ j : Nat, j < k + 1 → ((openC g) j).1 = 0) := fun e j hj => by
                          by_cases q : j < k
                          · exact HAL.out j q
                          · rw [show j = k by omega]; exact e
                        have CK := hiddenG (Copen.out wr k HB.out.low hlt)
                        have HYES : Hid (openB g k = true → findS g = ⟨87, 1, k, 0⟩) := fun e1 => by
                          have e2 : openC g k = (87, 0) := by unfold openC; rw [e1]; rfl
                          have e : (openC g k).1 ≠ 0 := by rw [e2]; decide
                          rw [FS5.out]; unfold fS5; rw [loop_stop _ 0 k (Nat.zero_le _) (by omega) e (fun m _ b => HAL.out m b), e2]
                        have HN2 : Hid (openB g k = false → ∀ j : Nat, j < k + 1 → (openC g j).1 = 0) := fun e1 => HNO.out (by unfold openC; rw [e1]; rfl)
                        clear HNO
                        obtain ⟨q1, hq1⟩ : ∃ q, openB g k = q := ⟨_, rfl⟩
                        rw [hq1] at HYES HN2 CK
                        clear hq1
                        cases q1
                        · go_wp2_with (go_at_call 73; (with_reducible refine CK.out.mono ?_); rintro e w3 ⟨rfl, b3⟩; have B3 := hiddenG (HB.out.later b3); clear b3)
                          go_roundg (g.actors.length - (k + 1))
                          case measure => omega
                          case rel => exact ⟨k + 1, by omega, rfl, by go_num, B3.out, HN2.out (by trivial)⟩
                        · have F3 : Hid (findS g = ⟨87, 1, k, 0⟩) := HYES.out rfl
                          go_wp2_with (first
                            | (refine wpList_storeW _ rfl 71 (.tmp 2) (.tmp 115) rfl rfl (w.heap.size + 1) 71 _ _ rfl rfl B3.out.2 sizX rfl rfl ?_; intro w9 hN hU; have N9 := hiddenG hN; have U9 := hiddenG hU; clear hN hU)
                            | (go_at_call 73; (with_reducible refine CK.out.mono ?_); rintro e w3 ⟨rfl, b3⟩; have B3 := hiddenG (HB.out.later b3); clear b3))
                          have z0 : w9.cell? ⟨w.heap.size + 1, 0, none⟩ = some (.int .i64 87) := N9.out.cell rfl
                          have z1 : w9.cell? ⟨w.heap.size + 1, 1, none⟩ = some (.int .u8 1) := N9.out.cell rfl
                          have z2 : w9.cell? ⟨w.heap.size + 1, 2, none⟩ = some (.int .i64 (k : Int)) := N9.out.cell rfl
                          have z3 : w9.cell? ⟨w.heap.size + 1, 3, none⟩ = some (.int .i64 0) := N9.out.cell rfl
                          refine bodyPost_ret (v := .agg #[.int .i64 87, .int .u8 1, .int .i64 (k : Int), .int .i64 0]) (by simp [results, Try.results36, go_sem, z0, z1, z2, z3]) rfl ?_
                          exact ⟨by rw [F3.out]; rfl, B3.out.low.trans (U9.out.below (Nat.le_succ _) B3.out.low.size)⟩
                      · have hki : ¬ (k : Int) < (g.actors.length : Int) := by omega
                        have F9 : Hid (findS g = fl0) := by show _ = _; rw [FS5.out]; unfold fS5; rw [zero_loop' _ 0 (fun m _ b => HAL.out m (by omega))]
                        go_wp2_with (first
                          | (refine wpList_storeW _ rfl 71 (.tmp 2) (.tmp 116) rfl rfl (w.heap.size + 1) 71 _ _ rfl rfl HB.out.2 sizX rfl rfl ?_; intro w9 hN hU; have N9 := hiddenG hN; have U9 := hiddenG hU; clear hN hU))
                        have z0 : w9.cell? ⟨w.heap.size + 1, 0, none⟩ = some (.int .i64 0) := N9.out.cell rfl
                        have z1 : w9.cell? ⟨w.heap.size + 1, 1, none⟩ = some (.int .u8 0) := N9.out.cell rfl
                        have z2 : w9.cell? ⟨w.heap.size + 1, 2, none⟩ = some (.int .i64 0) := N9.out.cell rfl
                        have z3 : w9.cell? ⟨w.heap.size + 1, 3, none⟩ = some (.int .i64 0) := N9.out.cell rfl
                        refine bodyPost_ret (v := .agg #[.int .i64 0, .int .u8 0, .int .i64 0, .int .i64 0]) (by simp [results, Try.results36, go_sem, z0, z1, z2, z3]) rfl ?_
                        exact ⟨by rw [F9.out]; rfl, HB.out.low.trans (U9.out.below (Nat.le_succ _) HB.out.low.size)⟩
  · have hm2 : (mc != 0) = true := by simpa using hm
    have F2 : Hid (findS g = ⟨mc, mk, mn, ms⟩) := FY.out hm
    clear FO FY
    go_wp2_with (first
      | (refine wpList_storeW _ rfl 71 (.tmp 2) (.tmp 31) rfl rfl (w.heap.size + 1) 71 _ _ rfl rfl B2.out.2 sizX rfl rfl ?_; intro w9 hN hU; have N9 := hiddenG hN; have U9 := hiddenG hU; clear hN hU))
    have z0 : w9.cell? ⟨w.heap.size + 1, 0, none⟩ = some (.int .i64 mc) := N9.out.cell rfl
    have z1 : w9.cell? ⟨w.heap.size + 1, 1, none⟩ = some (.int .u8 (mk : Int)) := N9.out.cell rfl
    have z2 : w9.cell? ⟨w.heap.size + 1, 2, none⟩ = some (.int .i64 (mn : Int)) := N9.out.cell rfl
    have z3 : w9.cell? ⟨w.heap.size + 1, 3, none⟩ = some (.int .i64 (ms : Int)) := N9.out.cell rfl
    refine bodyPost_ret (v := .agg #[.int .i64 mc, .int .u8 (mk : Int), .int .i64 (mn : Int), .int .i64 (ms : Int)]) (by simp [results, Try.results36, go_sem, z0, z1, z2, z3]) rfl ?_
    exact ⟨by rw [F2.out]; rfl, B2.out.low.trans (U9.out.below (Nat.le_succ _) B2.out.low.size)⟩
theorem wrong_f0 (a b c d : Value) (w : World) : (Instr.field 71 (.agg #[a, b, c, d]) 0).run Try.prog w = .ok a w := by kernel_rfl
set_option maxRecDepth 100000 in
set_option maxHeartbeats 1000000 in
/-- The document's Check is the program's. -/
theorem rcheck_any (g : GG) (a1 a2 a3 a4 : Option Addr) (c1 c2 c3 c4 : Nat) (w : World) (h : GrG w a1 a2 a3 a4 g) :
    Calls Try.prog 49 #[.agg #[.string (str g.name), .slice a1 g.actors.length c1, .slice a2 g.edges.length c2, .slice a3 g.ins.length c3, .slice a4 g.outs.length c4]] w fun e w' => e = .returned (.int .i64 (firstF g).code) ∧ Below w.heap.size w w' := by
  have ba := (Below.refl w.heap.size w).alloc (Nat.le_refl _) (.cells #[.string (str g.name), .slice a1 g.actors.length c1, .slice a2 g.edges.length c2, .slice a3 g.ins.length c3, .slice a4 g.outs.length c4] 31)
  have h2 := h.below ba
  have HF := hiddenG (find8_any g a1 a2 a3 a4 c1 c2 c3 c4 _ h2)
  rw [first_find]
  obtain ⟨⟨q, k, n, e⟩, hf⟩ : ∃ f, findS g = f := ⟨_, rfl⟩
  rw [hf] at HF
  rw [hf]
  unfold wV at HF
  have BA := hiddenG ba
  have gg := blkA_new 31 w #[.string (str g.name), .slice a1 g.actors.length c1, .slice a2 g.edges.length c2, .slice a3 g.ins.length c3, .slice a4 g.outs.length c4]
  have x0 := gg.cell (k := 0) rfl
  have x1 := gg.cell (k := 1) rfl
  have x2 := gg.cell (k := 2) rfl
  have x3 := gg.cell (k := 3) rfl
  have x4 := gg.cell (k := 4) rfl
  have f0 := wrong_f0 (.int .i64 q) (.int .u8 (k : Int)) (.int .i64 (n : Int)) (.int .i64 (e : Int))
  clear ba h2 h gg hf
  go_enter Try.func49, Try.ntmps49
  go_upto_region 1 with fail
  generalize w.alloc (.cells #[.string (str g.name), .slice a1 g.actors.length c1, .slice a2 g.edges.length c2, .slice a3 g.ins.length c3, .slice a4 g.outs.length c4] 31) = W0 at *
  go_wp2_with (go_at_call 36; (with_reducible refine HF.out.mono ?_); rintro e w1 ⟨rfl, b1⟩; have B1 := hiddenG b1; clear b1)
  go_ret
  exact ⟨rfl, BA.out.trans (B1.out.mono BA.out.size)⟩
/-- The two boxes. -/
def KBox (w : World) (ov gv : Array Value) (u : World) : Prop := BlkA 31 w.heap.size u ov ∧ BlkA 31 (w.heap.size + 1) u gv ∧ Below w.heap.size w u
theorem KBox.low {w u : World} {ov gv : Array Value} (h : KBox w ov gv u) : Below w.heap.size w u := h.2.2
theorem KBox.later {w u u' : World} {ov gv : Array Value} (h : KBox w ov gv u) (hb : Below u.heap.size u u') : KBox w ov gv u' := ⟨h.1.below hb, h.2.1.below hb, h.2.2.trans (hb.mono h.2.2.size)⟩
theorem kbox_new (w : World) (ov gv : Array Value) : KBox w ov gv ((w.alloc (.cells ov 31)).alloc (.cells gv 31)) := by
  refine ⟨(blkA_new 31 w ov).below ((Below.refl _ _).alloc (Nat.le_refl _) _), ?_, ((Below.refl w.heap.size w).alloc (Nat.le_refl _) _).alloc (by simp) _⟩
  have h3 := blkA_new 31 (w.alloc (.cells ov 31)) gv
  rw [World.size_alloc] at h3
  exact h3
set_option maxRecDepth 100000 in
set_option maxHeartbeats 8000000 in
theorem keptGraph_any (g : GG) (x1 x2 x3 x4 a1 a2 a3 a4 : Option Addr) (d1 d2 d3 d4 c1 c2 c3 c4 B : Nat) (w : World) (hL : LentG B w x1 x2 x3 x4 d1 d2 d3 d4 g) (h : GrG w a1 a2 a3 a4 g) (hl : Light g) :
    Calls Try.prog 22 #[.agg #[.string (str g.name), .slice x1 g.actors.length d1, .slice x2 g.edges.length d2, .slice x3 g.ins.length d3, .slice x4 g.outs.length d4], .agg #[.string (str g.name), .slice a1 g.actors.length c1, .slice a2 g.edges.length c2, .slice a3 g.ins.length c3, .slice a4 g.outs.length c4]] w fun e w' => e = .returned (.bool true) ∧ Below w.heap.size w w' := by
  have ho := h.nums
  have q1 := hL.gr ho hl
  have SG : Hid (∀ U, Below w.heap.size w U → Calls Try.prog 12 #[.agg #[.string (str g.name), .slice x1 g.actors.length d1, .slice x2 g.edges.length d2, .slice x3 g.ins.length d3, .slice x4 g.outs.length d4], .agg #[.string (str g.name), .slice a1 g.actors.length c1, .slice a2 g.edges.length c2, .slice a3 g.ins.length c3, .slice a4 g.outs.length c4]] U fun e w' => e = .returned (.bool true) ∧ Below U.heap.size U w') := fun U hb => by
    have r1 := q1.below hb
    have r2 := h.below hb
    exact sameGraph_any g x1 x2 x3 x4 a1 a2 a3 a4 d1 d2 d3 d4 c1 c2 c3 c4 U r1.A.at r1.E.at r1.I r1.O r2.A.at r2.E.at r2.I r2.O r1.l1 r1.l2 r1.l3 r1.l4 (fun x hx => by have := (ho.1 x hx).2.2; omega) (fun x hx => by have := (ho.2 x hx).2; omega)
  have n1 : (g.actors.length : Int) ≤ 1000000000000000 := by have := h.l1; omega
  have n2 : (g.edges.length : Int) ≤ 1000000000000000 := by have := h.l2; omega
  have n3 : (g.ins.length : Int) ≤ 1000000000000000 := by have := h.l3; omega
  have n4 : (g.outs.length : Int) ≤ 1000000000000000 := by have := h.l4; omega
  obtain ⟨b1, z1, f1, e1, hA, mA⟩ := hL.a.cells
  obtain ⟨b2, z2, f2, e2, hE, mE⟩ := hL.e.cells
  obtain ⟨b3, z3, f3, e3, mI⟩ := hL.i.mark
  obtain ⟨b4, z4, f4, e4, mO⟩ := hL.o.mark
  have KA : Hid (∀ U (k : Nat), Below w.heap.size w U → k < g.actors.length → ∃ gq xa xc b off ps, a1 = some ⟨b, off, none⟩ ∧ U.cell? ⟨b1, z1 + k * 3 + 2, none⟩ = some (.slice (some ⟨gq, 0, none⟩) (ps : List Int).length (ps.length + 4)) ∧ U.cell? ⟨b, off + k * 3 + 2, none⟩ = some (.slice xa ps.length xc) ∧ ∀ V, Below w.heap.size w V → Calls Try.prog 39 #[.slice (some ⟨gq, 0, none⟩) ps.length (ps.length + 4), .slice xa ps.length xc] V fun e w' => e = .returned (.bool true) ∧ Below V.heap.size V w') := fun U k hb hk => by
    obtain ⟨gq, y1, y2⟩ := hA k hk
    rcases h.A with e | ⟨b, off, e, hc⟩
    · rw [e] at hk; exact absurd hk (Nat.not_lt_zero _)
    obtain ⟨-, -, -, xa, xc, y3, y4⟩ := hc k hk
    exact ⟨gq, xa, xc, b, off, (nthA g.actors k).params, e, cell_keep hb y1, cell_keep hb y3, fun V hv => (kept_any gq xa _ _ xc B V (y2.below hv) (y4.below hv)).mono fun e w' hh => by
      obtain ⟨n, e1, e2⟩ := hh
      rw [e2]
      exact ⟨e1, drew_belowG (Below.refl _ _) n⟩⟩
  have KE : Hid (∀ U (k : Nat), Below w.heap.size w U → k < g.edges.length → ∃ gq xa xc b off ps, a2 = some ⟨b, off, none⟩ ∧ U.cell? ⟨b2, z2 + k * 5 + 4, none⟩ = some (.slice (some ⟨gq, 0, none⟩) (ps : List Int).length (ps.length + 4)) ∧ U.cell? ⟨b, off + k * 5 + 4, none⟩ = some (.slice xa ps.length xc) ∧ ∀ V, Below w.heap.size w V → Calls Try.prog 39 #[.slice (some ⟨gq, 0, none⟩) ps.length (ps.length + 4), .slice xa ps.length xc] V fun e w' => e = .returned (.bool true) ∧ Below V.heap.size V w') := fun U k hb hk => by
    obtain ⟨gq, y1, y2⟩ := hE k hk
    rcases h.E with e | ⟨b, off, e, hc⟩
    · rw [e] at hk; exact absurd hk (Nat.not_lt_zero _)
    obtain ⟨-, -, -, -, xa, xc, y3, y4⟩ := hc k hk
    exact ⟨gq, xa, xc, b, off, (nthE g.edges k).start, e, cell_keep hb y1, cell_keep hb y3, fun V hv => (kept_any gq xa _ _ xc B V (y2.below hv) (y4.below hv)).mono fun e w' hh => by
      obtain ⟨n, e1, e2⟩ := hh
      rw [e2]
      exact ⟨e1, drew_belowG (Below.refl _ _) n⟩⟩
  have MK : Hid (∀ U, Below w.heap.size w U → U.cell? ⟨b1, z1 + g.actors.length * 3 + 1, none⟩ = some (.int .u8 99) ∧ U.cell? ⟨b2, z2 + g.edges.length * 5, none⟩ = some (.int .i64 (-7770777)) ∧ U.cell? ⟨b3, z3 + g.ins.length * 3 + 1, none⟩ = some (.int .i64 (-7770777)) ∧ U.cell? ⟨b4, z4 + g.outs.length * 3 + 1, none⟩ = some (.int .i64 (-7770777))) := fun U hb => ⟨cell_keep hb mA, cell_keep hb mE, cell_keep hb mI, cell_keep hb mO⟩
  clear hA hE mA mE mI mO q1 ho hL h hl
  subst f1 f2 f3 f4
  have i1 : (g.actors.length : Int) + 1 ≤ (d1 : Int) := by omega
  have i2 : (g.edges.length : Int) + 1 ≤ (d2 : Int) := by omega
  have i3 : (g.ins.length : Int) + 1 ≤ (d3 : Int) := by omega
  have i4 : (g.outs.length : Int) + 1 ≤ (d4 : Int) := by omega
  have B0 := hiddenG (kbox_new w #[.string (str g.name), .slice (some ⟨b1, z1, none⟩) g.actors.length d1, .slice (some ⟨b2, z2, none⟩) g.edges.length d2, .slice (some ⟨b3, z3, none⟩) g.ins.length d3, .slice (some ⟨b4, z4, none⟩) g.outs.length d4] #[.string (str g.name), .slice a1 g.actors.length c1, .slice a2 g.edges.length c2, .slice a3 g.ins.length c3, .slice a4 g.outs.length c4])
  go_enter Try.func22, Try.ntmps22
  go_upto_region 1 with fail
  generalize (w.alloc (.cells #[.string (str g.name), .slice (some ⟨b1, z1, none⟩) g.actors.length d1, .slice (some ⟨b2, z2, none⟩) g.edges.length d2, .slice (some ⟨b3, z3, none⟩) g.ins.length d3, .slice (some ⟨b4, z4, none⟩) g.outs.length d4] 31)).alloc (.cells #[.string (str g.name), .slice a1 g.actors.length c1, .slice a2 g.edges.length c2, .slice a3 g.ins.length c3, .slice a4 g.outs.length c4] 31) = W0 at *
  have o0 : W0.cell? ⟨w.heap.size, 0, none⟩ = some (.string (str g.name)) := B0.out.1.cell rfl
  have o1 : W0.cell? ⟨w.heap.size, 1, none⟩ = some (.slice (some ⟨b1, z1, none⟩) g.actors.length d1) := B0.out.1.cell rfl
  have o2 : W0.cell? ⟨w.heap.size, 2, none⟩ = some (.slice (some ⟨b2, z2, none⟩) g.edges.length d2) := B0.out.1.cell rfl
  have o3 : W0.cell? ⟨w.heap.size, 3, none⟩ = some (.slice (some ⟨b3, z3, none⟩) g.ins.length d3) := B0.out.1.cell rfl
  have o4 : W0.cell? ⟨w.heap.size, 4, none⟩ = some (.slice (some ⟨b4, z4, none⟩) g.outs.length d4) := B0.out.1.cell rfl
  have p0 : W0.cell? ⟨w.heap.size + 1, 0, none⟩ = some (.string (str g.name)) := B0.out.2.1.cell rfl
  have p1 : W0.cell? ⟨w.heap.size + 1, 1, none⟩ = some (.slice a1 g.actors.length c1) := B0.out.2.1.cell rfl
  have p2 : W0.cell? ⟨w.heap.size + 1, 2, none⟩ = some (.slice a2 g.edges.length c2) := B0.out.2.1.cell rfl
  have p3 : W0.cell? ⟨w.heap.size + 1, 3, none⟩ = some (.slice a3 g.ins.length c3) := B0.out.2.1.cell rfl
  have p4 : W0.cell? ⟨w.heap.size + 1, 4, none⟩ = some (.slice a4 g.outs.length c4) := B0.out.2.1.cell rfl
  go_wp2_with (go_at_call 12; (with_reducible refine (SG.out _ B0.out.low).mono ?_); rintro e w2 ⟨rfl, b2⟩; have B2 := hiddenG (B0.out.later b2); clear b2)
  clear o0 o1 o2 o3 o4 p0 p1 p2 p3 p4 SG
  go_loopg [5] g.actors.length (fun gk v wr => ∃ k : Nat, k ≤ g.actors.length ∧ gk = g.actors.length - k ∧ v = .int .i64 (k : Int) ∧ KBox w #[.string (str g.name), .slice (some ⟨b1, z1, none⟩) g.actors.length d1, .slice (some ⟨b2, z2, none⟩) g.edges.length d2, .slice (some ⟨b3, z3, none⟩) g.ins.length d3, .slice (some ⟨b4, z4, none⟩) g.outs.length d4] #[.string (str g.name), .slice a1 g.actors.length c1, .slice a2 g.edges.length c2, .slice a3 g.ins.length c3, .slice a4 g.outs.length c4] wr)
  case atStart => exact ⟨0, Nat.zero_le _, rfl, rfl, B2.out⟩
  case round =>
    clear B2 B0
    obtain ⟨k, hk, rfl, rfl, hB⟩ := hrel
    have HB := hiddenG hB
    have o0 : wr.cell? ⟨w.heap.size, 0, none⟩ = some (.string (str g.name)) := hB.1.cell rfl
    have o1 : wr.cell? ⟨w.heap.size, 1, none⟩ = some (.slice (some ⟨b1, z1, none⟩) g.actors.length d1) := hB.1.cell rfl
    have o2 : wr.cell? ⟨w.heap.size, 2, none⟩ = some (.slice (some ⟨b2, z2, none⟩) g.edges.length d2) := hB.1.cell rfl
    have o3 : wr.cell? ⟨w.heap.size, 3, none⟩ = some (.slice (some ⟨b3, z3, none⟩) g.ins.length d3) := hB.1.cell rfl
    have o4 : wr.cell? ⟨w.heap.size, 4, none⟩ = some (.slice (some ⟨b4, z4, none⟩) g.outs.length d4) := hB.1.cell rfl
    have p0 : wr.cell? ⟨w.heap.size + 1, 0, none⟩ = some (.string (str g.name)) := hB.2.1.cell rfl
    have p1 : wr.cell? ⟨w.heap.size + 1, 1, none⟩ = some (.slice a1 g.actors.length c1) := hB.2.1.cell rfl
    have p2 : wr.cell? ⟨w.heap.size + 1, 2, none⟩ = some (.slice a2 g.edges.length c2) := hB.2.1.cell rfl
    have p3 : wr.cell? ⟨w.heap.size + 1, 3, none⟩ = some (.slice a3 g.ins.length c3) := hB.2.1.cell rfl
    have p4 : wr.cell? ⟨w.heap.size + 1, 4, none⟩ = some (.slice a4 g.outs.length c4) := hB.2.1.cell rfl
    clear hB
    by_cases hlt : k < g.actors.length
    · have hki : (k : Int) < (g.actors.length : Int) := by omega
      obtain ⟨gq, xa, xc, b, off, ps, rfl, y1, y2, kt⟩ := KA.out wr k HB.out.low hlt
      have KT : Hid (∀ U, Below wr.heap.size wr U → Calls Try.prog 39 #[.slice (some ⟨gq, 0, none⟩) ps.length (ps.length + 4), .slice xa ps.length xc] U fun e w' => e = .returned (.bool true) ∧ Below U.heap.size U w') := fun U hb => kt U (HB.out.low.trans (hb.mono HB.out.low.size))
      clear kt
      go_upto_region 6 with fail
      refine wp_region_said 13 (fun i u v => match i with
          | 0 => v = .pointer (some ⟨w.heap.size, 1, none⟩)
          | 1 => v = .slice (some ⟨b1, z1, none⟩) g.actors.length d1
          | 2 => v = .int .i64 (k : Int)
          | 3 => v = .pointer (some ⟨b1, z1 + k * 3, none⟩)
          | 4 => v = .pointer (some ⟨b1, z1 + k * 3 + 2, none⟩)
          | 5 => v = .slice (some ⟨gq, 0, none⟩) ps.length (ps.length + 4)
          | 6 => v = .pointer (some ⟨w.heap.size + 1, 1, none⟩)
          | 7 => v = .slice (some ⟨b, off, none⟩) g.actors.length c1
          | 8 => v = .int .i64 (k : Int)
          | 9 => v = .pointer (some ⟨b, off + k * 3, none⟩)
          | 10 => v = .pointer (some ⟨b, off + k * 3 + 2, none⟩)
          | 11 => v = .slice xa ps.length xc
          | 12 => v = .bool true
          | _ => True) (by kernel_rfl) (by kernel_rfl) (by kernel_rfl) (by kernel_rfl) ?_ ?_ ?_
      · intro i w v w' h hb
        match i, h with
        | 0, h => exact h
        | 1, h => exact h
        | 2, h => exact h
        | 3, h => exact h
        | 4, h => exact h
        | 5, h => exact h
        | 6, h => exact h
        | 7, h => exact h
        | 8, h => exact h
        | 9, h => exact h
        | 10, h => exact h
        | 11, h => exact h
        | 12, h => exact h
        | _ + 13, _ => trivial
      · intro i o ρ w' hi ho hb hc hf hfr hdep
        have o1 := cell_keep hb o1
        have p1 := cell_keep hb p1
        have u1 := cell_keep hb y1
        have u2 := cell_keep hb y2
        match i, hi with
        | 0, _ =>
          simp only [gTA, gCZ, gSI] at ho
          subst ho
          have ts : ρ (.tmp 2) = .pointer (some ⟨w.heap.size, 0, none⟩) := hfr 2 (by kernel_rfl)
          simp [go_sem, ts]
          exact ⟨Below.refl _ _, rfl⟩
        | 1, _ =>
          simp only [gTA, gCZ, gCS, gSI] at ho
          subst ho
          have ts : ρ (.tmp 22) = .pointer (some ⟨w.heap.size, 1, none⟩) := hdep 0 22 (by kernel_rfl) (by kernel_rfl)
          simp [go_sem, ts, o1]
          exact ⟨Below.refl _ _, rfl⟩
        | 2, _ =>
          simp only [gTA, gCZ, gCS, gSI] at ho
          subst ho
          have ts : ρ (.tmp 5) = .int .i64 (k : Int) := hfr 5 (by kernel_rfl)
          simp [go_sem, ts]
          exact ⟨Below.refl _ _, rfl⟩
        | 3, _ =>
          simp only [gTA, gCZ, gCS, gSI] at ho
          subst ho
          have t0 : ρ (.tmp 23) = .slice (some ⟨b1, z1, none⟩) g.actors.length d1 := hdep 1 23 (by kernel_rfl) (by kernel_rfl)
          have t1 : ρ (.tmp 24) = .int .i64 (k : Int) := hdep 2 24 (by kernel_rfl) (by kernel_rfl)
          simp [go_sem, t0, t1, hki]
          exact ⟨Below.refl _ _, rfl⟩
        | 4, _ =>
          simp only [gTA, gCZ, gCS, gSI] at ho
          subst ho
          have ts : ρ (.tmp 25) = .pointer (some ⟨b1, z1 + k * 3, none⟩) := hdep 3 25 (by kernel_rfl) (by kernel_rfl)
          simp [go_sem, ts]
          exact ⟨Below.refl _ _, rfl⟩
        | 5, _ =>
          simp only [gTA, gCZ, gCS, gSI] at ho
          subst ho
          have ts : ρ (.tmp 26) = .pointer (some ⟨b1, z1 + k * 3 + 2, none⟩) := hdep 4 26 (by kernel_rfl) (by kernel_rfl)
          simp [go_sem, ts, u1]
          exact ⟨Below.refl _ _, rfl⟩
        | 6, _ =>
          simp only [gTA, gCZ, gCS, gSI] at ho
          subst ho
          have ts : ρ (.tmp 3) = .pointer (some ⟨w.heap.size + 1, 0, none⟩) := hfr 3 (by kernel_rfl)
          simp [go_sem, ts]
          exact ⟨Below.refl _ _, rfl⟩
        | 7, _ =>
          simp only [gTA, gCZ, gCS, gSI] at ho
          subst ho
          have ts : ρ (.tmp 28) = .pointer (some ⟨w.heap.size + 1, 1, none⟩) := hdep 6 28 (by kernel_rfl) (by kernel_rfl)
          simp [go_sem, ts, p1]
          exact ⟨Below.refl _ _, rfl⟩
        | 8, _ =>
          simp only [gTA, gCZ, gCS, gSI] at ho
          subst ho
          have ts : ρ (.tmp 5) = .int .i64 (k : Int) := hfr 5 (by kernel_rfl)
          simp [go_sem, ts]
          exact ⟨Below.refl _ _, rfl⟩
        | 9, _ =>
          simp only [gTA, gCZ, gCS, gSI] at ho
          subst ho
          have t0 : ρ (.tmp 29) = .slice (some ⟨b, off, none⟩) g.actors.length c1 := hdep 7 29 (by kernel_rfl) (by kernel_rfl)
          have t1 : ρ (.tmp 30) = .int .i64 (k : Int) := hdep 8 30 (by kernel_rfl) (by kernel_rfl)
          simp [go_sem, t0, t1, hki]
          exact ⟨Below.refl _ _, rfl⟩
        | 10, _ =>
          simp only [gTA, gCZ, gCS, gSI] at ho
          subst ho
          have ts : ρ (.tmp 31) = .pointer (some ⟨b, off + k * 3, none⟩) := hdep 9 31 (by kernel_rfl) (by kernel_rfl)
          simp [go_sem, ts]
          exact ⟨Below.refl _ _, rfl⟩
        | 11, _ =>
          simp only [gTA, gCZ, gCS, gSI] at ho
          subst ho
          have ts : ρ (.tmp 32) = .pointer (some ⟨b, off + k * 3 + 2, none⟩) := hdep 10 32 (by kernel_rfl) (by kernel_rfl)
          simp [go_sem, ts, u2]
          exact ⟨Below.refl _ _, rfl⟩
        | 12, _ =>
          simp only [gTA, gCZ, gCS, gSI] at ho
          subst ho
          have t0 : ρ (.tmp 27) = .slice (some ⟨gq, 0, none⟩) ps.length (ps.length + 4) := hdep 5 27 (by kernel_rfl) (by kernel_rfl)
          have t1 : ρ (.tmp 33) = .slice xa ps.length xc := hdep 11 33 (by kernel_rfl) (by kernel_rfl)
          simp [go_sem, t0, t1, hf]
          exact ⟨rfl, (KT.out w' hb).mono fun e w'' hh => ⟨_, hh.1, hh.2, rfl⟩⟩
      · intro V9 w9 q9 hS
        have e0 : V9 0 = .pointer (some ⟨w.heap.size, 1, none⟩) := hS 0 (by decide)
        have e1 : V9 1 = .slice (some ⟨b1, z1, none⟩) g.actors.length d1 := hS 1 (by decide)
        have e2 : V9 2 = .int .i64 (k : Int) := hS 2 (by decide)
        have e3 : V9 3 = .pointer (some ⟨b1, z1 + k * 3, none⟩) := hS 3 (by decide)
        have e4 : V9 4 = .pointer (some ⟨b1, z1 + k * 3 + 2, none⟩) := hS 4 (by decide)
        have e5 : V9 5 = .slice (some ⟨gq, 0, none⟩) ps.length (ps.length + 4) := hS 5 (by decide)
        have e6 : V9 6 = .pointer (some ⟨w.heap.size + 1, 1, none⟩) := hS 6 (by decide)
        have e7 : V9 7 = .slice (some ⟨b, off, none⟩) g.actors.length c1 := hS 7 (by decide)
        have e8 : V9 8 = .int .i64 (k : Int) := hS 8 (by decide)
        have e9 : V9 9 = .pointer (some ⟨b, off + k * 3, none⟩) := hS 9 (by decide)
        have e10 : V9 10 = .pointer (some ⟨b, off + k * 3 + 2, none⟩) := hS 10 (by decide)
        have e11 : V9 11 = .slice xa ps.length xc := hS 11 (by decide)
        have e12 : V9 12 = .bool true := hS 12 (by decide)
        simp only [List.drop_succ_cons, List.drop_zero, List.take_succ_cons, List.take_zero, puts, e0, e1, e2, e3, e4, e5, e6, e7, e8, e9, e10, e11, e12]
        clear hS e0 e1 e2 e3 e4 e5 e6 e7 e8 e9 e10 e11 e12 V9
        simp only [Act.put, List.setIfInBounds_toArray, List.set_cons_zero, List.set_cons_succ]
        have B3 := hiddenG (HB.out.later q9)
        clear q9
        go_wp2
        go_roundg (g.actors.length - (k + 1))
        case measure => omega
        case rel => exact ⟨k + 1, by omega, rfl, by go_num, B3.out⟩
    · have hki : ¬ (k : Int) < (g.actors.length : Int) := by omega
      clear hlt hk
      go_wp2
      clear o0 o1 o2 o3 o4 p0 p1 p2 p3 p4
      go_loopg [6] g.edges.length (fun gk v wr => ∃ k : Nat, k ≤ g.edges.length ∧ gk = g.edges.length - k ∧ v = .int .i64 (k : Int) ∧ KBox w #[.string (str g.name), .slice (some ⟨b1, z1, none⟩) g.actors.length d1, .slice (some ⟨b2, z2, none⟩) g.edges.length d2, .slice (some ⟨b3, z3, none⟩) g.ins.length d3, .slice (some ⟨b4, z4, none⟩) g.outs.length d4] #[.string (str g.name), .slice a1 g.actors.length c1, .slice a2 g.edges.length c2, .slice a3 g.ins.length c3, .slice a4 g.outs.length c4] wr)
      case atStart => exact ⟨0, Nat.zero_le _, rfl, rfl, HB.out⟩
      case round =>
        clear HB hki
        obtain ⟨k, hk, rfl, rfl, hB⟩ := hrel
        have HB := hiddenG hB
        have o0 : wr.cell? ⟨w.heap.size, 0, none⟩ = some (.string (str g.name)) := hB.1.cell rfl
        have o1 : wr.cell? ⟨w.heap.size, 1, none⟩ = some (.slice (some ⟨b1, z1, none⟩) g.actors.length d1) := hB.1.cell rfl
        have o2 : wr.cell? ⟨w.heap.size, 2, none⟩ = some (.slice (some ⟨b2, z2, none⟩) g.edges.length d2) := hB.1.cell rfl
        have o3 : wr.cell? ⟨w.heap.size, 3, none⟩ = some (.slice (some ⟨b3, z3, none⟩) g.ins.length d3) := hB.1.cell rfl
        have o4 : wr.cell? ⟨w.heap.size, 4, none⟩ = some (.slice (some ⟨b4, z4, none⟩) g.outs.length d4) := hB.1.cell rfl
        have p0 : wr.cell? ⟨w.heap.size + 1, 0, none⟩ = some (.string (str g.name)) := hB.2.1.cell rfl
        have p1 : wr.cell? ⟨w.heap.size + 1, 1, none⟩ = some (.slice a1 g.actors.length c1) := hB.2.1.cell rfl
        have p2 : wr.cell? ⟨w.heap.size + 1, 2, none⟩ = some (.slice a2 g.edges.length c2) := hB.2.1.cell rfl
        have p3 : wr.cell? ⟨w.heap.size + 1, 3, none⟩ = some (.slice a3 g.ins.length c3) := hB.2.1.cell rfl
        have p4 : wr.cell? ⟨w.heap.size + 1, 4, none⟩ = some (.slice a4 g.outs.length c4) := hB.2.1.cell rfl
        clear hB
        by_cases hlt : k < g.edges.length
        · have hki : (k : Int) < (g.edges.length : Int) := by omega
          obtain ⟨gq, xa, xc, b, off, ps, rfl, y1, y2, kt⟩ := KE.out wr k HB.out.low hlt
          have KT : Hid (∀ U, Below wr.heap.size wr U → Calls Try.prog 39 #[.slice (some ⟨gq, 0, none⟩) ps.length (ps.length + 4), .slice xa ps.length xc] U fun e w' => e = .returned (.bool true) ∧ Below U.heap.size U w') := fun U hb => kt U (HB.out.low.trans (hb.mono HB.out.low.size))
          clear kt
          go_upto_region 11 with fail
          refine wp_region_said 13 (fun i u v => match i with
              | 0 => v = .pointer (some ⟨w.heap.size, 2, none⟩)
              | 1 => v = .slice (some ⟨b2, z2, none⟩) g.edges.length d2
              | 2 => v = .int .i64 (k : Int)
              | 3 => v = .pointer (some ⟨b2, z2 + k * 5, none⟩)
              | 4 => v = .pointer (some ⟨b2, z2 + k * 5 + 4, none⟩)
              | 5 => v = .slice (some ⟨gq, 0, none⟩) ps.length (ps.length + 4)
              | 6 => v = .pointer (some ⟨w.heap.size + 1, 2, none⟩)
              | 7 => v = .slice (some ⟨b, off, none⟩) g.edges.length c2
              | 8 => v = .int .i64 (k : Int)
              | 9 => v = .pointer (some ⟨b, off + k * 5, none⟩)
              | 10 => v = .pointer (some ⟨b, off + k * 5 + 4, none⟩)
              | 11 => v = .slice xa ps.length xc
              | 12 => v = .bool true
              | _ => True) (by kernel_rfl) (by kernel_rfl) (by kernel_rfl) (by kernel_rfl) ?_ ?_ ?_
          · intro i w v w' h hb
            match i, h with
            | 0, h => exact h
            | 1, h => exact h
            | 2, h => exact h
            | 3, h => exact h
            | 4, h => exact h
            | 5, h => exact h
            | 6, h => exact h
            | 7, h => exact h
            | 8, h => exact h
            | 9, h => exact h
            | 10, h => exact h
            | 11, h => exact h
            | 12, h => exact h
            | _ + 13, _ => trivial
          · intro i o ρ w' hi ho hb hc hf hfr hdep
            have o2 := cell_keep hb o2
            have p2 := cell_keep hb p2
            have u1 := cell_keep hb y1
            have u2 := cell_keep hb y2
            match i, hi with
            | 0, _ =>
              simp only [gTA, gCZ, gSI] at ho
              subst ho
              have ts : ρ (.tmp 2) = .pointer (some ⟨w.heap.size, 0, none⟩) := hfr 2 (by kernel_rfl)
              simp [go_sem, ts]
              exact ⟨Below.refl _ _, rfl⟩
            | 1, _ =>
              simp only [gTA, gCZ, gCS, gSI] at ho
              subst ho
              have ts : ρ (.tmp 43) = .pointer (some ⟨w.heap.size, 2, none⟩) := hdep 0 43 (by kernel_rfl) (by kernel_rfl)
              simp [go_sem, ts, o2]
              exact ⟨Below.refl _ _, rfl⟩
            | 2, _ =>
              simp only [gTA, gCZ, gCS, gSI] at ho
              subst ho
              have ts : ρ (.tmp 6) = .int .i64 (k : Int) := hfr 6 (by kernel_rfl)
              simp [go_sem, ts]
              exact ⟨Below.refl _ _, rfl⟩
            | 3, _ =>
              simp only [gTA, gCZ, gCS, gSI] at ho
              subst ho
              have t0 : ρ (.tmp 44) = .slice (some ⟨b2, z2, none⟩) g.edges.length d2 := hdep 1 44 (by kernel_rfl) (by kernel_rfl)
              have t1 : ρ (.tmp 45) = .int .i64 (k : Int) := hdep 2 45 (by kernel_rfl) (by kernel_rfl)
              simp [go_sem, t0, t1, hki]
              exact ⟨Below.refl _ _, rfl⟩
            | 4, _ =>
              simp only [gTA, gCZ, gCS, gSI] at ho
              subst ho
              have ts : ρ (.tmp 46) = .pointer (some ⟨b2, z2 + k * 5, none⟩) := hdep 3 46 (by kernel_rfl) (by kernel_rfl)
              simp [go_sem, ts]
              exact ⟨Below.refl _ _, rfl⟩
            | 5, _ =>
              simp only [gTA, gCZ, gCS, gSI] at ho
              subst ho
              have ts : ρ (.tmp 47) = .pointer (some ⟨b2, z2 + k * 5 + 4, none⟩) := hdep 4 47 (by kernel_rfl) (by kernel_rfl)
              simp [go_sem, ts, u1]
              exact ⟨Below.refl _ _, rfl⟩
            | 6, _ =>
              simp only [gTA, gCZ, gCS, gSI] at ho
              subst ho
              have ts : ρ (.tmp 3) = .pointer (some ⟨w.heap.size + 1, 0, none⟩) := hfr 3 (by kernel_rfl)
              simp [go_sem, ts]
              exact ⟨Below.refl _ _, rfl⟩
            | 7, _ =>
              simp only [gTA, gCZ, gCS, gSI] at ho
              subst ho
              have ts : ρ (.tmp 49) = .pointer (some ⟨w.heap.size + 1, 2, none⟩) := hdep 6 49 (by kernel_rfl) (by kernel_rfl)
              simp [go_sem, ts, p2]
              exact ⟨Below.refl _ _, rfl⟩
            | 8, _ =>
              simp only [gTA, gCZ, gCS, gSI] at ho
              subst ho
              have ts : ρ (.tmp 6) = .int .i64 (k : Int) := hfr 6 (by kernel_rfl)
              simp [go_sem, ts]
              exact ⟨Below.refl _ _, rfl⟩
            | 9, _ =>
              simp only [gTA, gCZ, gCS, gSI] at ho
              subst ho
              have t0 : ρ (.tmp 50) = .slice (some ⟨b, off, none⟩) g.edges.length c2 := hdep 7 50 (by kernel_rfl) (by kernel_rfl)
              have t1 : ρ (.tmp 51) = .int .i64 (k : Int) := hdep 8 51 (by kernel_rfl) (by kernel_rfl)
              simp [go_sem, t0, t1, hki]
              exact ⟨Below.refl _ _, rfl⟩
            | 10, _ =>
              simp only [gTA, gCZ, gCS, gSI] at ho
              subst ho
              have ts : ρ (.tmp 52) = .pointer (some ⟨b, off + k * 5, none⟩) := hdep 9 52 (by kernel_rfl) (by kernel_rfl)
              simp [go_sem, ts]
              exact ⟨Below.refl _ _, rfl⟩
            | 11, _ =>
              simp only [gTA, gCZ, gCS, gSI] at ho
              subst ho
              have ts : ρ (.tmp 53) = .pointer (some ⟨b, off + k * 5 + 4, none⟩) := hdep 10 53 (by kernel_rfl) (by kernel_rfl)
              simp [go_sem, ts, u2]
              exact ⟨Below.refl _ _, rfl⟩
            | 12, _ =>
              simp only [gTA, gCZ, gCS, gSI] at ho
              subst ho
              have t0 : ρ (.tmp 48) = .slice (some ⟨gq, 0, none⟩) ps.length (ps.length + 4) := hdep 5 48 (by kernel_rfl) (by kernel_rfl)
              have t1 : ρ (.tmp 54) = .slice xa ps.length xc := hdep 11 54 (by kernel_rfl) (by kernel_rfl)
              simp [go_sem, t0, t1, hf]
              exact ⟨rfl, (KT.out w' hb).mono fun e w'' hh => ⟨_, hh.1, hh.2, rfl⟩⟩
          · intro V9 w9 q9 hS
            have e0 : V9 0 = .pointer (some ⟨w.heap.size, 2, none⟩) := hS 0 (by decide)
            have e1 : V9 1 = .slice (some ⟨b2, z2, none⟩) g.edges.length d2 := hS 1 (by decide)
            have e2 : V9 2 = .int .i64 (k : Int) := hS 2 (by decide)
            have e3 : V9 3 = .pointer (some ⟨b2, z2 + k * 5, none⟩) := hS 3 (by decide)
            have e4 : V9 4 = .pointer (some ⟨b2, z2 + k * 5 + 4, none⟩) := hS 4 (by decide)
            have e5 : V9 5 = .slice (some ⟨gq, 0, none⟩) ps.length (ps.length + 4) := hS 5 (by decide)
            have e6 : V9 6 = .pointer (some ⟨w.heap.size + 1, 2, none⟩) := hS 6 (by decide)
            have e7 : V9 7 = .slice (some ⟨b, off, none⟩) g.edges.length c2 := hS 7 (by decide)
            have e8 : V9 8 = .int .i64 (k : Int) := hS 8 (by decide)
            have e9 : V9 9 = .pointer (some ⟨b, off + k * 5, none⟩) := hS 9 (by decide)
            have e10 : V9 10 = .pointer (some ⟨b, off + k * 5 + 4, none⟩) := hS 10 (by decide)
            have e11 : V9 11 = .slice xa ps.length xc := hS 11 (by decide)
            have e12 : V9 12 = .bool true := hS 12 (by decide)
            simp only [List.drop_succ_cons, List.drop_zero, List.take_succ_cons, List.take_zero, puts, e0, e1, e2, e3, e4, e5, e6, e7, e8, e9, e10, e11, e12]
            clear hS e0 e1 e2 e3 e4 e5 e6 e7 e8 e9 e10 e11 e12 V9
            simp only [Act.put, List.setIfInBounds_toArray, List.set_cons_zero, List.set_cons_succ]
            have B3 := hiddenG (HB.out.later q9)
            clear q9
            go_wp2
            go_roundg (g.edges.length - (k + 1))
            case measure => omega
            case rel => exact ⟨k + 1, by omega, rfl, by go_num, B3.out⟩
        · have hki : ¬ (k : Int) < (g.edges.length : Int) := by omega
          obtain ⟨mA, mE, mI, mO⟩ := MK.out wr HB.out.low
          clear hlt hk
          go_wp2
          go_ret
          exact ⟨rfl, HB.out.low⟩
end Go.Proofs.Ytlfmmdioondaoaa
