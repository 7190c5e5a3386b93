/- Texts of one chain, laid one behind the other. -/
import Derived.Test.YtnlmbffdeknbjaaPartNetOf31
import Derived.Test.YtnlmbffdeknbjaaPartNetOf18
namespace Go.Proofs.Ytnlmbffdeknbjaa
open Go.ChangeShapes Go.WideShapes Go.ChangeAt Go.RowKit
theorem zero_loop' {f : Nat → Int × Nat} {k : Nat} : ∀ (n i : Nat), (∀ j, i ≤ j → j < i + n → (f j).1 = 0) → loopC n i f k = fl0
  | 0, _, _ => rfl
  | n + 1, i, h => by
    have e : loopC (n + 1) i f k = if (f i).1 ≠ 0 then ⟨(f i).1, k, i, (f i).2⟩ else loopC n (i + 1) f k := rfl
    rw [e, if_neg (fun q => q (h i (Nat.le_refl _) (by omega)))]
    exact zero_loop' n (i + 1) (fun j a b => h j (by omega) (by omega))
theorem step_stop {f : Nat → Int × Nat} {k n j : Nat} {R : FL} (hj : j < n) (h : (f j).1 ≠ 0) (ha : ∀ m, m < j → (f m).1 = 0) : (if (loopC n 0 f k).code ≠ 0 then loopC n 0 f k else R) = ⟨(f j).1, k, j, (f j).2⟩ := by
  have e := loop_stop (f := f) (k := k) n 0 j (Nat.zero_le _) (by omega) h (fun m _ b => ha m b)
  rw [e, if_pos h]
theorem step_on {f : Nat → Int × Nat} {k n : Nat} {R : FL} (ha : ∀ m, m < n → (f m).1 = 0) : (if (loopC n 0 f k).code ≠ 0 then loopC n 0 f k else R) = R := by
  rw [if_neg (fun q => q (zero_loop n 0 (fun j _ b => ha j (by omega))))]
def fS5 (g : GG) : FL := loopC g.actors.length 0 (openC g) 1
def fS4 (g : GG) : FL := if (loopC g.outs.length 0 (outC g) 4).code ≠ 0 then loopC g.outs.length 0 (outC g) 4 else fS5 g
def fS3 (g : GG) : FL := if (loopC g.ins.length 0 (inC g) 3).code ≠ 0 then loopC g.ins.length 0 (inC g) 3 else fS4 g
def fS2 (g : GG) : FL := if (loopC g.edges.length 0 (edgeC g) 2).code ≠ 0 then loopC g.edges.length 0 (edgeC g) 2 else fS3 g
def fS1 (g : GG) : FL := if (loopC g.actors.length 0 (fun i => (actorC g i, 0)) 1).code ≠ 0 then loopC g.actors.length 0 (fun i => (actorC g i, 0)) 1 else fS2 g
theorem find_head (g : GG) : findS g = if (headF g).code ≠ 0 then headF g else fS1 g := rfl
theorem head_many (g : GG) : headF g = if nameB g.name = false then ⟨82, 0, 0, 0⟩ else if g.actors.length = 0 then ⟨80, 0, 0, 0⟩ else manyF g := rfl
theorem find_name {g : GG} (h : nameB g.name = false) : findS g = ⟨82, 0, 0, 0⟩ := by rw [find_head, head_many, if_pos h]; rfl
theorem find_empty {g : GG} (h : nameB g.name = true) (h0 : g.actors.length = 0) : findS g = ⟨80, 0, 0, 0⟩ := by
  have e : headF g = ⟨80, 0, 0, 0⟩ := by rw [head_many, h, if_neg (by decide), if_pos h0]
  rw [find_head, e]; rfl
theorem find_many {g : GG} (h : nameB g.name = true) (h0 : g.actors.length ≠ 0) : findS g = if (manyF g).code ≠ 0 then manyF g else fS1 g := by
  have e : headF g = manyF g := by rw [head_many, h, if_neg (by decide), if_neg h0]
  rw [find_head, e]
/-- The two boxes of Find. -/
def FBox (w : World) (gv : Array Value) (u : World) : Prop := GBox w gv u ∧ BlkA 57 (w.heap.size + 1) u #[.int .i64 0, .int .u8 0, .int .i64 0, .int .i64 0]
theorem FBox.low {w u : World} {gv : Array Value} (h : FBox w gv u) : Below w.heap.size w u := h.1.2
theorem FBox.later {w u u' : World} {gv : Array Value} (h : FBox w gv u) (hb : Below u.heap.size u u') : FBox w gv u' := ⟨h.1.later hb, h.2.below hb⟩
theorem fbox_new (w : World) (gv : Array Value) : FBox w gv ((w.alloc (.cells gv 26)).alloc (.cells #[.int .i64 0, .int .u8 0, .int .i64 0, .int .i64 0] 57)) := by
  refine ⟨(gbox_new w gv).later ((Below.refl _ _).alloc (Nat.le_refl _) _), ?_⟩
  have h3 := blkA_new 57 (w.alloc (.cells gv 26)) #[.int .i64 0, .int .u8 0, .int .i64 0, .int .i64 0]
  rw [World.size_alloc] at h3
  exact h3
set_option maxRecDepth 100000 in
set_option maxHeartbeats 8000000 in
theorem find8_any (g : GG) (a1 a2 a3 a4 : Option Addr) (c1 c2 c3 c4 : Nat) (w : World) (h : GrG w a1 a2 a3 a4 g) :
    Calls Try.prog 18 #[.agg #[.string (str g.name), .slice a1 g.actors.length c1, .slice a2 g.edges.length c2, .slice a3 g.ins.length c3, .slice a4 g.outs.length c4]] w fun e w' => e = .returned (wV (findS g)) ∧ Below w.heap.size w w' := by
  have HG := hiddenG h
  have n1 : (g.actors.length : Int) ≤ 1000000000000000 := by have := h.l1; omega
  have n2 : (g.edges.length : Int) ≤ 1000000000000000 := by have := h.l2; omega
  have n3 : (g.ins.length : Int) ≤ 1000000000000000 := by have := h.l3; omega
  have n4 : (g.outs.length : Int) ≤ 1000000000000000 := by have := h.l4; omega
  have RN : Hid (∀ U, Calls Try.prog 30 #[.string (str g.name)] U fun e w' => e = .returned (.bool (nameB g.name)) ∧ U = w') := fun U => rname_any _ U
  have MN0 : ∀ U, Calls Try.prog 31 #[.agg #[.string (str g.name), .slice a1 g.actors.length c1, .slice a2 g.edges.length c2, .slice a3 g.ins.length c3, .slice a4 g.outs.length c4]] U fun e w' => e = .returned (wV (manyF g)) ∧ Below U.heap.size U w' := fun U => many8_any g a1 a2 a3 a4 c1 c2 c3 c4 U h.l1 h.l2 h.l3 h.l4
  have Cactor : Hid (∀ U (k : Nat), Below w.heap.size w U → k < g.actors.length → Calls Try.prog 32 #[.agg #[.string (str g.name), .slice a1 g.actors.length c1, .slice a2 g.edges.length c2, .slice a3 g.ins.length c3, .slice a4 g.outs.length c4], .int .i64 (k : Int)] U fun e w' => e = .returned (.int .i64 (actorC g k)) ∧ Below U.heap.size U w') := fun U k hb hk => actor8_any g a1 a2 a3 a4 c1 c2 c3 c4 k U (HG.out.below hb) hk
  have Cedge : Hid (∀ U (k : Nat), Below w.heap.size w U → k < g.edges.length → Calls Try.prog 33 #[.agg #[.string (str g.name), .slice a1 g.actors.length c1, .slice a2 g.edges.length c2, .slice a3 g.ins.length c3, .slice a4 g.outs.length c4], .int .i64 (k : Int)] U fun e w' => e = .returned (.tuple #[.int .i64 (edgeC g k).1, .int .i64 ((edgeC g k).2 : Int)]) ∧ Below U.heap.size U w') := fun U k hb hk => edge8_any g a1 a2 a3 a4 c1 c2 c3 c4 k U (HG.out.below hb) hk
  have Cin : Hid (∀ U (k : Nat), Below w.heap.size w U → k < g.ins.length → Calls Try.prog 34 #[.agg #[.string (str g.name), .slice a1 g.actors.length c1, .slice a2 g.edges.length c2, .slice a3 g.ins.length c3, .slice a4 g.outs.length c4], .int .i64 (k : Int)] U fun e w' => e = .returned (.tuple #[.int .i64 (inC g k).1, .int .i64 ((inC g k).2 : Int)]) ∧ Below U.heap.size U w') := fun U k hb hk => in8_any g a1 a2 a3 a4 c1 c2 c3 c4 k U (HG.out.below hb) hk
  have Cout : Hid (∀ U (k : Nat), Below w.heap.size w U → k < g.outs.length → Calls Try.prog 35 #[.agg #[.string (str g.name), .slice a1 g.actors.length c1, .slice a2 g.edges.length c2, .slice a3 g.ins.length c3, .slice a4 g.outs.length c4], .int .i64 (k : Int)] U fun e w' => e = .returned (.tuple #[.int .i64 (outC g k).1, .int .i64 ((outC g k).2 : Int)]) ∧ Below U.heap.size U w') := fun U k hb hk => out8_any g a1 a2 a3 a4 c1 c2 c3 c4 k U (HG.out.below hb) hk
  have Copen : Hid (∀ U (k : Nat), Below w.heap.size w U → k < g.actors.length → Calls Try.prog 36 #[.agg #[.string (str g.name), .slice a1 g.actors.length c1, .slice a2 g.edges.length c2, .slice a3 g.ins.length c3, .slice a4 g.outs.length c4], .int .i64 (k : Int)] U fun e w' => e = .returned (.bool (openB g k)) ∧ Below U.heap.size U w') := fun U k hb hk => open8_any g a1 a2 a3 a4 c1 c2 c3 c4 k U (HG.out.below hb) hk
  have B0 := hiddenG (fbox_new w #[.string (str g.name), .slice a1 g.actors.length c1, .slice a2 g.edges.length c2, .slice a3 g.ins.length c3, .slice a4 g.outs.length c4])
  have FN : Hid (nameB g.name = false → findS g = ⟨82, 0, 0, 0⟩) := find_name
  have FE : Hid (nameB g.name = true → g.actors.length = 0 → findS g = ⟨80, 0, 0, 0⟩) := find_empty
  have FM : Hid (nameB g.name = true → g.actors.length ≠ 0 → findS g = if (manyF g).code ≠ 0 then manyF g else fS1 g) := find_many
  clear h HG
  generalize nameB g.name = q0 at *
  cases q0
  · have F0 : Hid (findS g = ⟨82, 0, 0, 0⟩) := FN.out rfl
    clear FN FE FM MN0
    go_enter Try.func18, Try.ntmps18
    go_upto_region 1 with fail
    generalize (w.alloc (.cells #[.string (str g.name), .slice a1 g.actors.length c1, .slice a2 g.edges.length c2, .slice a3 g.ins.length c3, .slice a4 g.outs.length c4] 26)).alloc (.cells #[.int .i64 0, .int .u8 0, .int .i64 0, .int .i64 0] 57) = W0 at *
    have g0 : W0.cell? ⟨w.heap.size, 0, none⟩ = some (.string (str g.name)) := B0.out.1.1.cell rfl
    have g1 : W0.cell? ⟨w.heap.size, 1, none⟩ = some (.slice a1 g.actors.length c1) := B0.out.1.1.cell rfl
    have g2 : W0.cell? ⟨w.heap.size, 2, none⟩ = some (.slice a2 g.edges.length c2) := B0.out.1.1.cell rfl
    have g3 : W0.cell? ⟨w.heap.size, 3, none⟩ = some (.slice a3 g.ins.length c3) := B0.out.1.1.cell rfl
    have g4 : W0.cell? ⟨w.heap.size, 4, none⟩ = some (.slice a4 g.outs.length c4) := B0.out.1.1.cell rfl
    go_wp2_with (first
      | (refine wpList_storeW _ rfl 57 (.tmp 2) (.tmp 20) rfl rfl (w.heap.size + 1) 57 _ _ rfl rfl B0.out.2 sizX rfl rfl ?_; intro w9 hN hU; have N9 := hiddenG hN; have U9 := hiddenG hU; clear hN hU)
      | (go_at_call 30; (with_reducible refine (RN.out _).mono ?_); rintro e w' ⟨rfl, rfl⟩))
    have z0 : w9.cell? ⟨w.heap.size + 1, 0, none⟩ = some (.int .i64 82) := N9.out.cell rfl
    have z1 : w9.cell? ⟨w.heap.size + 1, 1, none⟩ = some (.int .u8 0) := N9.out.cell rfl
    have z2 : w9.cell? ⟨w.heap.size + 1, 2, none⟩ = some (.int .i64 0) := N9.out.cell rfl
    have z3 : w9.cell? ⟨w.heap.size + 1, 3, none⟩ = some (.int .i64 0) := N9.out.cell rfl
    refine bodyPost_ret (v := .agg #[.int .i64 82, .int .u8 0, .int .i64 0, .int .i64 0]) (by simp [results, Try.results18, go_sem, z0, z1, z2, z3]) rfl ?_
    exact ⟨by rw [F0.out]; rfl, B0.out.low.trans (U9.out.below (Nat.le_succ _) B0.out.low.size)⟩
  by_cases hz : g.actors.length = 0
  · have F0 : Hid (findS g = ⟨80, 0, 0, 0⟩) := FE.out rfl hz
    have j0 : ((g.actors.length : Int) == 0) = true := by simpa using hz
    clear FN FE FM MN0 hz
    go_enter Try.func18, Try.ntmps18
    go_upto_region 1 with fail
    generalize (w.alloc (.cells #[.string (str g.name), .slice a1 g.actors.length c1, .slice a2 g.edges.length c2, .slice a3 g.ins.length c3, .slice a4 g.outs.length c4] 26)).alloc (.cells #[.int .i64 0, .int .u8 0, .int .i64 0, .int .i64 0] 57) = W0 at *
    have g0 : W0.cell? ⟨w.heap.size, 0, none⟩ = some (.string (str g.name)) := B0.out.1.1.cell rfl
    have g1 : W0.cell? ⟨w.heap.size, 1, none⟩ = some (.slice a1 g.actors.length c1) := B0.out.1.1.cell rfl
    have g2 : W0.cell? ⟨w.heap.size, 2, none⟩ = some (.slice a2 g.edges.length c2) := B0.out.1.1.cell rfl
    have g3 : W0.cell? ⟨w.heap.size, 3, none⟩ = some (.slice a3 g.ins.length c3) := B0.out.1.1.cell rfl
    have g4 : W0.cell? ⟨w.heap.size, 4, none⟩ = some (.slice a4 g.outs.length c4) := B0.out.1.1.cell rfl
    go_wp2_with (first
      | (refine wpList_storeW _ rfl 57 (.tmp 2) (.tmp 25) rfl rfl (w.heap.size + 1) 57 _ _ rfl rfl B0.out.2 sizX rfl rfl ?_; intro w9 hN hU; have N9 := hiddenG hN; have U9 := hiddenG hU; clear hN hU)
      | (go_at_call 30; (with_reducible refine (RN.out _).mono ?_); rintro e w' ⟨rfl, rfl⟩))
    have z0 : w9.cell? ⟨w.heap.size + 1, 0, none⟩ = some (.int .i64 80) := N9.out.cell rfl
    have z1 : w9.cell? ⟨w.heap.size + 1, 1, none⟩ = some (.int .u8 0) := N9.out.cell rfl
    have z2 : w9.cell? ⟨w.heap.size + 1, 2, none⟩ = some (.int .i64 0) := N9.out.cell rfl
    have z3 : w9.cell? ⟨w.heap.size + 1, 3, none⟩ = some (.int .i64 0) := N9.out.cell rfl
    refine bodyPost_ret (v := .agg #[.int .i64 80, .int .u8 0, .int .i64 0, .int .i64 0]) (by simp [results, Try.results18, go_sem, z0, z1, z2, z3]) rfl ?_
    exact ⟨by rw [F0.out]; rfl, B0.out.low.trans (U9.out.below (Nat.le_succ _) B0.out.low.size)⟩
  have j0 : ((g.actors.length : Int) == 0) = false := by simpa using hz
  have F1 : Hid (findS g = if (manyF g).code ≠ 0 then manyF g else fS1 g) := FM.out rfl hz
  obtain ⟨mf, hmf⟩ : ∃ q, manyF g = q := ⟨_, rfl⟩
  rw [hmf] at F1 MN0
  clear hmf FN FE FM hz
  obtain ⟨mc, mk, mn, ms⟩ := mf
  have MN : Hid (∀ U, Calls Try.prog 31 #[.agg #[.string (str g.name), .slice a1 g.actors.length c1, .slice a2 g.edges.length c2, .slice a3 g.ins.length c3, .slice a4 g.outs.length c4]] U fun e w' => e = .returned (.agg #[.int .i64 mc, .int .u8 (mk : Int), .int .i64 (mn : Int), .int .i64 (ms : Int)]) ∧ Below U.heap.size U w') := MN0
  clear MN0
  have FY : Hid (mc ≠ 0 → findS g = ⟨mc, mk, mn, ms⟩) := fun e => by rw [F1.out, if_pos e]
  have FO : Hid (mc = 0 → findS g = fS1 g) := fun e => by rw [F1.out, if_neg (fun q => q e)]
  clear F1
  go_enter Try.func18, Try.ntmps18
  go_upto_region 1 with fail
  generalize (w.alloc (.cells #[.string (str g.name), .slice a1 g.actors.length c1, .slice a2 g.edges.length c2, .slice a3 g.ins.length c3, .slice a4 g.outs.length c4] 26)).alloc (.cells #[.int .i64 0, .int .u8 0, .int .i64 0, .int .i64 0] 57) = W0 at *
  have g0 : W0.cell? ⟨w.heap.size, 0, none⟩ = some (.string (str g.name)) := B0.out.1.1.cell rfl
  have g1 : W0.cell? ⟨w.heap.size, 1, none⟩ = some (.slice a1 g.actors.length c1) := B0.out.1.1.cell rfl
  have g2 : W0.cell? ⟨w.heap.size, 2, none⟩ = some (.slice a2 g.edges.length c2) := B0.out.1.1.cell rfl
  have g3 : W0.cell? ⟨w.heap.size, 3, none⟩ = some (.slice a3 g.ins.length c3) := B0.out.1.1.cell rfl
  have g4 : W0.cell? ⟨w.heap.size, 4, none⟩ = some (.slice a4 g.outs.length c4) := B0.out.1.1.cell rfl
  go_upto_region 6 with (first
    | (go_at_call 31; (with_reducible refine (MN.out _).mono ?_); rintro e w1 ⟨rfl, b1⟩; have B1 := hiddenG (B0.out.later b1); clear b1)
    | (go_at_call 30; (with_reducible refine (RN.out _).mono ?_); rintro e w' ⟨rfl, rfl⟩))
  have BX := hiddenG (blkA_new 57 w1 #[.int .i64 mc, .int .u8 (mk : Int), .int .i64 (mn : Int), .int .i64 (ms : Int)])
  have B2 := hiddenG (B1.out.later ((Below.refl _ _).alloc (Nat.le_refl _) (.cells #[.int .i64 mc, .int .u8 (mk : Int), .int .i64 (mn : Int), .int .i64 (ms : Int)] 57)))
  generalize w1.alloc (.cells #[.int .i64 mc, .int .u8 (mk : Int), .int .i64 (mn : Int), .int .i64 (ms : Int)] 57) = V at *
  have m0 := BX.out.cell (k := 0) rfl
  have m1 := BX.out.cell (k := 1) rfl
  have m2 := BX.out.cell (k := 2) rfl
  have m3 := BX.out.cell (k := 3) rfl
  clear g0 g1 g2 g3 g4 BX MN RN j0
  by_cases hm : mc = 0
  · subst hm
    have FS1 : Hid (findS g = fS1 g) := FO.out rfl
    clear FO FY
    go_wp2
    clear m0 m1 m2 m3
    go_loopg [4] g.actors.length (fun gk v wr => ∃ k : Nat, k ≤ g.actors.length ∧ gk = g.actors.length - k ∧ v = .int .i64 (k : Int) ∧ FBox w #[.string (str g.name), .slice a1 g.actors.length c1, .slice a2 g.edges.length c2, .slice a3 g.ins.length c3, .slice a4 g.outs.length c4] wr ∧ ∀ j : Nat, j < k → ((fun i => (actorC g i, 0)) j).1 = 0)
    case atStart => exact ⟨0, Nat.zero_le _, rfl, rfl, B2.out, fun j hj => absurd hj (Nat.not_lt_zero _)⟩
    case round =>
      clear B2 B1 B0
      obtain ⟨k, hk, rfl, rfl, hB, hall⟩ := hrel
      have HB := hiddenG hB
      have HAL := hiddenG hall
      have g0 : wr.cell? ⟨w.heap.size, 0, none⟩ = some (.string (str g.name)) := hB.1.1.cell rfl
      have g1 : wr.cell? ⟨w.heap.size, 1, none⟩ = some (.slice a1 g.actors.length c1) := hB.1.1.cell rfl
      have g2 : wr.cell? ⟨w.heap.size, 2, none⟩ = some (.slice a2 g.edges.length c2) := hB.1.1.cell rfl
      have g3 : wr.cell? ⟨w.heap.size, 3, none⟩ = some (.slice a3 g.ins.length c3) := hB.1.1.cell rfl
      have g4 : wr.cell? ⟨w.heap.size, 4, none⟩ = some (.slice a4 g.outs.length c4) := hB.1.1.cell rfl
      clear hB hall
      by_cases hlt : k < g.actors.length
      · have hki : (k : Int) < (g.actors.length : Int) := by omega
        have HNO : Hid (((fun i => (actorC g i, 0)) k).1 = 0 → ∀ j : Nat, j < k + 1 → ((fun i => (actorC g i, 0)) j).1 = 0) := fun e j hj => by
          by_cases q : j < k
          · exact HAL.out j q
          · rw [show j = k by omega]; exact e
        have CK := hiddenG (Cactor.out wr k HB.out.low hlt)
        have HYES : Hid (((fun i => (actorC g i, 0)) k).1 ≠ 0 → findS g = ⟨((fun i => (actorC g i, 0)) k).1, 1, k, ((fun i => (actorC g i, 0)) k).2⟩) := fun e => by rw [FS1.out]; unfold fS1; rw [step_stop hlt e HAL.out]
        obtain ⟨q1, hq1⟩ : ∃ q, actorC g k = q := ⟨_, rfl⟩
        simp only [hq1] at HYES HNO CK
        clear hq1
        by_cases hc : q1 = 0
        · subst hc
          clear HYES
          go_wp2_with (go_at_call 32; (with_reducible refine CK.out.mono ?_); rintro e w3 ⟨rfl, b3⟩; have B3 := hiddenG (HB.out.later b3); clear b3)
          go_roundg (g.actors.length - (k + 1))
          case measure => omega
          case rel => exact ⟨k + 1, by omega, rfl, by go_num, B3.out, HNO.out (by trivial)⟩
        · have hc2 : (q1 != 0) = true := by simpa using hc
          have F3 := hiddenG (HYES.out hc)
          clear HYES HNO
          go_wp2_with (first
            | (refine wpList_storeW _ rfl 57 (.tmp 2) (.tmp 46) rfl rfl (w.heap.size + 1) 57 _ _ rfl rfl B3.out.2 sizX rfl rfl ?_; intro w9 hN hU; have N9 := hiddenG hN; have U9 := hiddenG hU; clear hN hU)
            | (go_at_call 32; (with_reducible refine CK.out.mono ?_); rintro e w3 ⟨rfl, b3⟩; have B3 := hiddenG (HB.out.later b3); clear b3))
          have z0 : w9.cell? ⟨w.heap.size + 1, 0, none⟩ = some (.int .i64 q1) := N9.out.cell rfl
          have z1 : w9.cell? ⟨w.heap.size + 1, 1, none⟩ = some (.int .u8 1) := N9.out.cell rfl
          have z2 : w9.cell? ⟨w.heap.size + 1, 2, none⟩ = some (.int .i64 (k : Int)) := N9.out.cell rfl
          have z3 : w9.cell? ⟨w.heap.size + 1, 3, none⟩ = some (.int .i64 0) := N9.out.cell rfl
          refine bodyPost_ret (v := .agg #[.int .i64 q1, .int .u8 1, .int .i64 (k : Int), .int .i64 0]) (by simp [results, Try.results18, go_sem, z0, z1, z2, z3]) rfl ?_
          exact ⟨by rw [F3.out]; rfl, B3.out.low.trans (U9.out.below (Nat.le_succ _) B3.out.low.size)⟩
      · have hki : ¬ (k : Int) < (g.actors.length : Int) := by omega
        have FS2 : Hid (findS g = fS2 g) := by show _ = _; rw [FS1.out]; unfold fS1; rw [step_on (fun m b => HAL.out m (by omega))]
        clear HAL hlt hk FS1
        go_wp2
        clear g0 g1 g2 g3 g4
        go_loopg [6] g.edges.length (fun gk v wr => ∃ k : Nat, k ≤ g.edges.length ∧ gk = g.edges.length - k ∧ v = .int .i64 (k : Int) ∧ FBox w #[.string (str g.name), .slice a1 g.actors.length c1, .slice a2 g.edges.length c2, .slice a3 g.ins.length c3, .slice a4 g.outs.length c4] wr ∧ ∀ j : Nat, j < k → ((edgeC g) j).1 = 0)
        case atStart => exact ⟨0, Nat.zero_le _, rfl, rfl, HB.out, fun j hj => absurd hj (Nat.not_lt_zero _)⟩
        case round =>
          clear HB hki
          obtain ⟨k, hk, rfl, rfl, hB, hall⟩ := hrel
          have HB := hiddenG hB
          have HAL := hiddenG hall
          have g0 : wr.cell? ⟨w.heap.size, 0, none⟩ = some (.string (str g.name)) := hB.1.1.cell rfl
          have g1 : wr.cell? ⟨w.heap.size, 1, none⟩ = some (.slice a1 g.actors.length c1) := hB.1.1.cell rfl
          have g2 : wr.cell? ⟨w.heap.size, 2, none⟩ = some (.slice a2 g.edges.length c2) := hB.1.1.cell rfl
          have g3 : wr.cell? ⟨w.heap.size, 3, none⟩ = some (.slice a3 g.ins.length c3) := hB.1.1.cell rfl
          have g4 : wr.cell? ⟨w.heap.size, 4, none⟩ = some (.slice a4 g.outs.length c4) := hB.1.1.cell rfl
          clear hB hall
          by_cases hlt : k < g.edges.length
          · have hki : (k : Int) < (g.edges.length : Int) := by omega
            have HNO : Hid (((edgeC g) k).1 = 0 → ∀ j : Nat, j < k + 1 → ((edgeC g) j).1 = 0) := fun e j hj => by
              by_cases q : j < k
              · exact HAL.out j q
              · rw [show j = k by omega]; exact e
            have CK := hiddenG (Cedge.out wr k HB.out.low hlt)
            have HYES : Hid (((edgeC g) k).1 ≠ 0 → findS g = ⟨((edgeC g) k).1, 2, k, ((edgeC g) k).2⟩) := fun e => by rw [FS2.out]; unfold fS2; rw [step_stop hlt e HAL.out]
            obtain ⟨q1, hq1⟩ : ∃ q, edgeC g k = q := ⟨_, rfl⟩
            simp only [hq1] at HYES HNO CK
            clear hq1
            obtain ⟨q1, sx⟩ := q1
            simp only at HYES HNO CK
            by_cases hc : q1 = 0
            · subst hc
              clear HYES
              go_wp2_with (go_at_call 33; (with_reducible refine CK.out.mono ?_); rintro e w3 ⟨rfl, b3⟩; have B3 := hiddenG (HB.out.later b3); clear b3)
              go_roundg (g.edges.length - (k + 1))
              case measure => omega
              case rel => exact ⟨k + 1, by omega, rfl, by go_num, B3.out, HNO.out (by trivial)⟩
            · have hc2 : (q1 != 0) = true := by simpa using hc
              have F3 := hiddenG (HYES.out hc)
              clear HYES HNO
              go_wp2_with (first
                | (refine wpList_storeW _ rfl 57 (.tmp 2) (.tmp 65) rfl rfl (w.heap.size + 1) 57 _ _ rfl rfl B3.out.2 sizX rfl rfl ?_; intro w9 hN hU; have N9 := hiddenG hN; have U9 := hiddenG hU; clear hN hU)
                | (go_at_call 33; (with_reducible refine CK.out.mono ?_); rintro e w3 ⟨rfl, b3⟩; have B3 := hiddenG (HB.out.later b3); clear b3))
              have z0 : w9.cell? ⟨w.heap.size + 1, 0, none⟩ = some (.int .i64 q1) := N9.out.cell rfl
              have z1 : w9.cell? ⟨w.heap.size + 1, 1, none⟩ = some (.int .u8 2) := N9.out.cell rfl
              have z2 : w9.cell? ⟨w.heap.size + 1, 2, none⟩ = some (.int .i64 (k : Int)) := N9.out.cell rfl
              have z3 : w9.cell? ⟨w.heap.size + 1, 3, none⟩ = some (.int .i64 (sx : Int)) := N9.out.cell rfl
              refine bodyPost_ret (v := .agg #[.int .i64 q1, .int .u8 2, .int .i64 (k : Int), .int .i64 (sx : Int)]) (by simp [results, Try.results18, go_sem, z0, z1, z2, z3]) rfl ?_
              exact ⟨by rw [F3.out]; rfl, B3.out.low.trans (U9.out.below (Nat.le_succ _) B3.out.low.size)⟩
          · have hki : ¬ (k : Int) < (g.edges.length : Int) := by omega
            have FS3 : Hid (findS g = fS3 g) := by show _ = _; rw [FS2.out]; unfold fS2; rw [step_on (fun m b => HAL.out m (by omega))]
            clear HAL hlt hk FS2
            go_wp2
            clear g0 g1 g2 g3 g4
            go_loopg [9] g.ins.length (fun gk v wr => ∃ k : Nat, k ≤ g.ins.length ∧ gk = g.ins.length - k ∧ v = .int .i64 (k : Int) ∧ FBox w #[.string (str g.name), .slice a1 g.actors.length c1, .slice a2 g.edges.length c2, .slice a3 g.ins.length c3, .slice a4 g.outs.length c4] wr ∧ ∀ j : Nat, j < k → ((inC g) j).1 = 0)
            case atStart => exact ⟨0, Nat.zero_le _, rfl, rfl, HB.out, fun j hj => absurd hj (Nat.not_lt_zero _)⟩
            case round =>
              clear HB hki
              obtain ⟨k, hk, rfl, rfl, hB, hall⟩ := hrel
              have HB := hiddenG hB
              have HAL := hiddenG hall
              have g0 : wr.cell? ⟨w.heap.size, 0, none⟩ = some (.string (str g.name)) := hB.1.1.cell rfl
              have g1 : wr.cell? ⟨w.heap.size, 1, none⟩ = some (.slice a1 g.actors.length c1) := hB.1.1.cell rfl
              have g2 : wr.cell? ⟨w.heap.size, 2, none⟩ = some (.slice a2 g.edges.length c2) := hB.1.1.cell rfl
              have g3 : wr.cell? ⟨w.heap.size, 3, none⟩ = some (.slice a3 g.ins.length c3) := hB.1.1.cell rfl
              have g4 : wr.cell? ⟨w.heap.size, 4, none⟩ = some (.slice a4 g.outs.length c4) := hB.1.1.cell rfl
              clear hB hall
              by_cases hlt : k < g.ins.length
              · have hki : (k : Int) < (g.ins.length : Int) := by omega
                have HNO : Hid (((inC g) k).1 = 0 → ∀ j : Nat, j < k + 1 → ((inC g) j).1 = 0) := fun e j hj => by
                  by_cases q : j < k
                  · exact HAL.out j q
                  · rw [show j = k by omega]; exact e
                have CK := hiddenG (Cin.out wr k HB.out.low hlt)
                have HYES : Hid (((inC g) k).1 ≠ 0 → findS g = ⟨((inC g) k).1, 3, k, ((inC g) k).2⟩) := fun e => by rw [FS3.out]; unfold fS3; rw [step_stop hlt e HAL.out]
                obtain ⟨q1, hq1⟩ : ∃ q, inC g k = q := ⟨_, rfl⟩
                simp only [hq1] at HYES HNO CK
                clear hq1
                obtain ⟨q1, sx⟩ := q1
                simp only at HYES HNO CK
                by_cases hc : q1 = 0
                · subst hc
                  clear HYES
                  go_wp2_with (go_at_call 34; (with_reducible refine CK.out.mono ?_); rintro e w3 ⟨rfl, b3⟩; have B3 := hiddenG (HB.out.later b3); clear b3)
                  go_roundg (g.ins.length - (k + 1))
                  case measure => omega
                  case rel => exact ⟨k + 1, by omega, rfl, by go_num, B3.out, HNO.out (by trivial)⟩
                · have hc2 : (q1 != 0) = true := by simpa using hc
                  have F3 := hiddenG (HYES.out hc)
                  clear HYES HNO
                  go_wp2_with (first
                    | (refine wpList_storeW _ rfl 57 (.tmp 2) (.tmp 84) rfl rfl (w.heap.size + 1) 57 _ _ rfl rfl B3.out.2 sizX rfl rfl ?_; intro w9 hN hU; have N9 := hiddenG hN; have U9 := hiddenG hU; clear hN hU)
                    | (go_at_call 34; (with_reducible refine CK.out.mono ?_); rintro e w3 ⟨rfl, b3⟩; have B3 := hiddenG (HB.out.later b3); clear b3))
                  have z0 : w9.cell? ⟨w.heap.size + 1, 0, none⟩ = some (.int .i64 q1) := N9.out.cell rfl
                  have z1 : w9.cell? ⟨w.heap.size + 1, 1, none⟩ = some (.int .u8 3) := N9.out.cell rfl
                  have z2 : w9.cell? ⟨w.heap.size + 1, 2, none⟩ = some (.int .i64 (k : Int)) := N9.out.cell rfl
                  have z3 : w9.cell? ⟨w.heap.size + 1, 3, none⟩ = some (.int .i64 (sx : Int)) := N9.out.cell rfl
                  refine bodyPost_ret (v := .agg #[.int .i64 q1, .int .u8 3, .int .i64 (k : Int), .int .i64 (sx : Int)]) (by simp [results, Try.results18, go_sem, z0, z1, z2, z3]) rfl ?_
                  exact ⟨by rw [F3.out]; rfl, B3.out.low.trans (U9.out.below (Nat.le_succ _) B3.out.low.size)⟩
              · have hki : ¬ (k : Int) < (g.ins.length : Int) := by omega
                have FS4 : Hid (findS g = fS4 g) := by show _ = _; rw [FS3.out]; unfold fS3; rw [step_on (fun m b => HAL.out m (by omega))]
                clear HAL hlt hk FS3
                go_wp2
                clear g0 g1 g2 g3 g4
                go_loopg [12] g.outs.length (fun gk v wr => ∃ k : Nat, k ≤ g.outs.length ∧ gk = g.outs.length - k ∧ v = .int .i64 (k : Int) ∧ FBox w #[.string (str g.name), .slice a1 g.actors.length c1, .slice a2 g.edges.length c2, .slice a3 g.ins.length c3, .slice a4 g.outs.length c4] wr ∧ ∀ j : Nat, j < k → ((outC g) j).1 = 0)
                case atStart => exact ⟨0, Nat.zero_le _, rfl, rfl, HB.out, fun j hj => absurd hj (Nat.not_lt_zero _)⟩
                case round =>
                  clear HB hki
                  obtain ⟨k, hk, rfl, rfl, hB, hall⟩ := hrel
                  have HB := hiddenG hB
                  have HAL := hiddenG hall
                  have g0 : wr.cell? ⟨w.heap.size, 0, none⟩ = some (.string (str g.name)) := hB.1.1.cell rfl
                  have g1 : wr.cell? ⟨w.heap.size, 1, none⟩ = some (.slice a1 g.actors.length c1) := hB.1.1.cell rfl
                  have g2 : wr.cell? ⟨w.heap.size, 2, none⟩ = some (.slice a2 g.edges.length c2) := hB.1.1.cell rfl
                  have g3 : wr.cell? ⟨w.heap.size, 3, none⟩ = some (.slice a3 g.ins.length c3) := hB.1.1.cell rfl
                  have g4 : wr.cell? ⟨w.heap.size, 4, none⟩ = some (.slice a4 g.outs.length c4) := hB.1.1.cell rfl
                  clear hB hall
                  by_cases hlt : k < g.outs.length
                  · have hki : (k : Int) < (g.outs.length : Int) := by omega
                    have HNO : Hid (((outC g) k).1 = 0 → ∀ j : Nat, j < k + 1 → ((outC g) j).1 = 0) := fun e j hj => by
                      by_cases q : j < k
                      · exact HAL.out j q
                      · rw [show j = k by omega]; exact e
                    have CK := hiddenG (Cout.out wr k HB.out.low hlt)
                    have HYES : Hid (((outC g) k).1 ≠ 0 → findS g = ⟨((outC g) k).1, 4, k, ((outC g) k).2⟩) := fun e => by rw [FS4.out]; unfold fS4; rw [step_stop hlt e HAL.out]
                    obtain ⟨q1, hq1⟩ : ∃ q, outC g k = q := ⟨_, rfl⟩
                    simp only [hq1] at HYES HNO CK
                    clear hq1
                    obtain ⟨q1, sx⟩ := q1
                    simp only at HYES HNO CK
                    by_cases hc : q1 = 0
                    · subst hc
                      clear HYES
                      go_wp2_with (go_at_call 35; (with_reducible refine CK.out.mono ?_); rintro e w3 ⟨rfl, b3⟩; have B3 := hiddenG (HB.out.later b3); clear b3)
                      go_roundg (g.outs.length - (k + 1))
                      case measure => omega
                      case rel => exact ⟨k + 1, by omega, rfl, by go_num, B3.out, HNO.out (by trivial)⟩
                    · have hc2 : (q1 != 0) = true := by simpa using hc
                      have F3 := hiddenG (HYES.out hc)
                      clear HYES HNO
                      go_wp2_with (first
                        | (refine wpList_storeW _ rfl 57 (.tmp 2) (.tmp 103) rfl rfl (w.heap.size + 1) 57 _ _ rfl rfl B3.out.2 sizX rfl rfl ?_; intro w9 hN hU; have N9 := hiddenG hN; have U9 := hiddenG hU; clear hN hU)
                        | (go_at_call 35; (with_reducible refine CK.out.mono ?_); rintro e w3 ⟨rfl, b3⟩; have B3 := hiddenG (HB.out.later b3); clear b3))
                      have z0 : w9.cell? ⟨w.heap.size + 1, 0, none⟩ = some (.int .i64 q1) := N9.out.cell rfl
                      have z1 : w9.cell? ⟨w.heap.size + 1, 1, none⟩ = some (.int .u8 4) := N9.out.cell rfl
                      have z2 : w9.cell? ⟨w.heap.size + 1, 2, none⟩ = some (.int .i64 (k : Int)) := N9.out.cell rfl
                      have z3 : w9.cell? ⟨w.heap.size + 1, 3, none⟩ = some (.int .i64 (sx : Int)) := N9.out.cell rfl
                      refine bodyPost_ret (v := .agg #[.int .i64 q1, .int .u8 4, .int .i64 (k : Int), .int .i64 (sx : Int)]) (by simp [results, Try.results18, go_sem, z0, z1, z2, z3]) rfl ?_
                      exact ⟨by rw [F3.out]; rfl, B3.out.low.trans (U9.out.below (Nat.le_succ _) B3.out.low.size)⟩
                  · have hki : ¬ (k : Int) < (g.outs.length : Int) := by omega
                    have FS5 : Hid (findS g = fS5 g) := by show _ = _; rw [FS4.out]; unfold fS4; rw [step_on (fun m b => HAL.out m (by omega))]
                    clear HAL hlt hk FS4
                    go_wp2
                    clear g0 g1 g2 g3 g4
                    go_loopg [15] g.actors.length (fun gk v wr => ∃ k : Nat, k ≤ g.actors.length ∧ gk = g.actors.length - k ∧ v = .int .i64 (k : Int) ∧ FBox w #[.string (str g.name), .slice a1 g.actors.length c1, .slice a2 g.edges.length c2, .slice a3 g.ins.length c3, .slice a4 g.outs.length c4] wr ∧ ∀ j : Nat, j < k → ((openC g) j).1 = 0)
                    case atStart => exact ⟨0, Nat.zero_le _, rfl, rfl, HB.out, fun j hj => absurd hj (Nat.not_lt_zero _)⟩
                    case round =>
                      clear HB hki
                      obtain ⟨k, hk, rfl, rfl, hB, hall⟩ := hrel
                      have HB := hiddenG hB
                      have HAL := hiddenG hall
                      have g0 : wr.cell? ⟨w.heap.size, 0, none⟩ = some (.string (str g.name)) := hB.1.1.cell rfl
                      have g1 : wr.cell? ⟨w.heap.size, 1, none⟩ = some (.slice a1 g.actors.length c1) := hB.1.1.cell rfl
                      have g2 : wr.cell? ⟨w.heap.size, 2, none⟩ = some (.slice a2 g.edges.length c2) := hB.1.1.cell rfl
                      have g3 : wr.cell? ⟨w.heap.size, 3, none⟩ = some (.slice a3 g.ins.length c3) := hB.1.1.cell rfl
                      have g4 : wr.cell? ⟨w.heap.size, 4, none⟩ = some (.slice a4 g.outs.length c4) := hB.1.1.cell rfl
                      clear hB hall
                      by_cases hlt : k < g.actors.length
                      · have hki : (k : Int) < (g.actors.length : Int) := by omega
                        have HNO : Hid (((openC g) k).1 = 0 → ∀ j : Nat, j < k + 1 → ((openC g) j).1 = 0) := fun e j hj => by
                          by_cases q : j < k
                          · exact HAL.out j q
                          · rw [show j = k by omega]; exact e
                        have CK := hiddenG (Copen.out wr k HB.out.low hlt)
                        have HYES : Hid (openB g k = true → findS g = ⟨87, 1, k, 0⟩) := fun e1 => by
                          have e2 : openC g k = (87, 0) := by unfold openC; rw [e1]; rfl
                          have e : (openC g k).1 ≠ 0 := by rw [e2]; decide
                          rw [FS5.out]; unfold fS5; rw [loop_stop _ 0 k (Nat.zero_le _) (by omega) e (fun m _ b => HAL.out m b), e2]
                        have HN2 : Hid (openB g k = false → ∀ j : Nat, j < k + 1 → (openC g j).1 = 0) := fun e1 => HNO.out (by unfold openC; rw [e1]; rfl)
                        clear HNO
                        obtain ⟨q1, hq1⟩ : ∃ q, openB g k = q := ⟨_, rfl⟩
                        rw [hq1] at HYES HN2 CK
                        clear hq1
                        cases q1
                        · go_wp2_with (go_at_call 36; (with_reducible refine CK.out.mono ?_); rintro e w3 ⟨rfl, b3⟩; have B3 := hiddenG (HB.out.later b3); clear b3)
                          go_roundg (g.actors.length - (k + 1))
                          case measure => omega
                          case rel => exact ⟨k + 1, by omega, rfl, by go_num, B3.out, HN2.out (by trivial)⟩
                        · have F3 : Hid (findS g = ⟨87, 1, k, 0⟩) := HYES.out rfl
                          go_wp2_with (first
                            | (refine wpList_storeW _ rfl 57 (.tmp 2) (.tmp 115) rfl rfl (w.heap.size + 1) 57 _ _ rfl rfl B3.out.2 sizX rfl rfl ?_; intro w9 hN hU; have N9 := hiddenG hN; have U9 := hiddenG hU; clear hN hU)
                            | (go_at_call 36; (with_reducible refine CK.out.mono ?_); rintro e w3 ⟨rfl, b3⟩; have B3 := hiddenG (HB.out.later b3); clear b3))
                          have z0 : w9.cell? ⟨w.heap.size + 1, 0, none⟩ = some (.int .i64 87) := N9.out.cell rfl
                          have z1 : w9.cell? ⟨w.heap.size + 1, 1, none⟩ = some (.int .u8 1) := N9.out.cell rfl
                          have z2 : w9.cell? ⟨w.heap.size + 1, 2, none⟩ = some (.int .i64 (k : Int)) := N9.out.cell rfl
                          have z3 : w9.cell? ⟨w.heap.size + 1, 3, none⟩ = some (.int .i64 0) := N9.out.cell rfl
                          refine bodyPost_ret (v := .agg #[.int .i64 87, .int .u8 1, .int .i64 (k : Int), .int .i64 0]) (by simp [results, Try.results18, go_sem, z0, z1, z2, z3]) rfl ?_
                          exact ⟨by rw [F3.out]; rfl, B3.out.low.trans (U9.out.below (Nat.le_succ _) B3.out.low.size)⟩
                      · have hki : ¬ (k : Int) < (g.actors.length : Int) := by omega
                        have F9 : Hid (findS g = fl0) := by show _ = _; rw [FS5.out]; unfold fS5; rw [zero_loop' _ 0 (fun m _ b => HAL.out m (by omega))]
                        go_wp2_with (first
                          | (refine wpList_storeW _ rfl 57 (.tmp 2) (.tmp 116) rfl rfl (w.heap.size + 1) 57 _ _ rfl rfl HB.out.2 sizX rfl rfl ?_; intro w9 hN hU; have N9 := hiddenG hN; have U9 := hiddenG hU; clear hN hU))
                        have z0 : w9.cell? ⟨w.heap.size + 1, 0, none⟩ = some (.int .i64 0) := N9.out.cell rfl
                        have z1 : w9.cell? ⟨w.heap.size + 1, 1, none⟩ = some (.int .u8 0) := N9.out.cell rfl
                        have z2 : w9.cell? ⟨w.heap.size + 1, 2, none⟩ = some (.int .i64 0) := N9.out.cell rfl
                        have z3 : w9.cell? ⟨w.heap.size + 1, 3, none⟩ = some (.int .i64 0) := N9.out.cell rfl
                        refine bodyPost_ret (v := .agg #[.int .i64 0, .int .u8 0, .int .i64 0, .int .i64 0]) (by simp [results, Try.results18, go_sem, z0, z1, z2, z3]) rfl ?_
                        exact ⟨by rw [F9.out]; rfl, HB.out.low.trans (U9.out.below (Nat.le_succ _) HB.out.low.size)⟩
  · have hm2 : (mc != 0) = true := by simpa using hm
    have F2 : Hid (findS g = ⟨mc, mk, mn, ms⟩) := FY.out hm
    clear FO FY
    go_wp2_with (first
      | (refine wpList_storeW _ rfl 57 (.tmp 2) (.tmp 31) rfl rfl (w.heap.size + 1) 57 _ _ rfl rfl B2.out.2 sizX rfl rfl ?_; intro w9 hN hU; have N9 := hiddenG hN; have U9 := hiddenG hU; clear hN hU))
    have z0 : w9.cell? ⟨w.heap.size + 1, 0, none⟩ = some (.int .i64 mc) := N9.out.cell rfl
    have z1 : w9.cell? ⟨w.heap.size + 1, 1, none⟩ = some (.int .u8 (mk : Int)) := N9.out.cell rfl
    have z2 : w9.cell? ⟨w.heap.size + 1, 2, none⟩ = some (.int .i64 (mn : Int)) := N9.out.cell rfl
    have z3 : w9.cell? ⟨w.heap.size + 1, 3, none⟩ = some (.int .i64 (ms : Int)) := N9.out.cell rfl
    refine bodyPost_ret (v := .agg #[.int .i64 mc, .int .u8 (mk : Int), .int .i64 (mn : Int), .int .i64 (ms : Int)]) (by simp [results, Try.results18, go_sem, z0, z1, z2, z3]) rfl ?_
    exact ⟨by rw [F2.out]; rfl, B2.out.low.trans (U9.out.below (Nat.le_succ _) B2.out.low.size)⟩
theorem wrong_f0 (a b c d : Value) (w : World) : (Instr.field 57 (.agg #[a, b, c, d]) 0).run Try.prog w = .ok a w := by kernel_rfl
set_option maxRecDepth 100000 in
set_option maxHeartbeats 1000000 in
/-- The document's Check is the program's. -/
theorem rcheck_any (g : GG) (a1 a2 a3 a4 : Option Addr) (c1 c2 c3 c4 : Nat) (w : World) (h : GrG w a1 a2 a3 a4 g) :
    Calls Try.prog 8 #[.agg #[.string (str g.name), .slice a1 g.actors.length c1, .slice a2 g.edges.length c2, .slice a3 g.ins.length c3, .slice a4 g.outs.length c4]] w fun e w' => e = .returned (.int .i64 (firstF g).code) ∧ Below w.heap.size w w' := by
  have ba := (Below.refl w.heap.size w).alloc (Nat.le_refl _) (.cells #[.string (str g.name), .slice a1 g.actors.length c1, .slice a2 g.edges.length c2, .slice a3 g.ins.length c3, .slice a4 g.outs.length c4] 26)
  have h2 := h.below ba
  have HF := hiddenG (find8_any g a1 a2 a3 a4 c1 c2 c3 c4 _ h2)
  rw [first_find]
  obtain ⟨⟨q, k, n, e⟩, hf⟩ : ∃ f, findS g = f := ⟨_, rfl⟩
  rw [hf] at HF
  rw [hf]
  unfold wV at HF
  have BA := hiddenG ba
  have gg := blkA_new 26 w #[.string (str g.name), .slice a1 g.actors.length c1, .slice a2 g.edges.length c2, .slice a3 g.ins.length c3, .slice a4 g.outs.length c4]
  have x0 := gg.cell (k := 0) rfl
  have x1 := gg.cell (k := 1) rfl
  have x2 := gg.cell (k := 2) rfl
  have x3 := gg.cell (k := 3) rfl
  have x4 := gg.cell (k := 4) rfl
  have f0 := wrong_f0 (.int .i64 q) (.int .u8 (k : Int)) (.int .i64 (n : Int)) (.int .i64 (e : Int))
  clear ba h2 h gg hf
  go_enter Try.func8, Try.ntmps8
  go_upto_region 1 with fail
  generalize w.alloc (.cells #[.string (str g.name), .slice a1 g.actors.length c1, .slice a2 g.edges.length c2, .slice a3 g.ins.length c3, .slice a4 g.outs.length c4] 26) = W0 at *
  go_wp2_with (go_at_call 18; (with_reducible refine HF.out.mono ?_); rintro e w1 ⟨rfl, b1⟩; have B1 := hiddenG b1; clear b1)
  go_ret
  exact ⟨rfl, BA.out.trans (B1.out.mono BA.out.size)⟩
end Go.Proofs.Ytnlmbffdeknbjaa
