/- Texts of one chain, laid one behind the other. -/
import Derived.Test.YtolpelfdhcccnaaGreatDoorPartSourceParses39
import Derived.Test.YtolpelfdhcccnaaGreatDoorPartSourceParses33
import Derived.Test.YtolpelfdhcccnaaGreatDoorPartSourceParses37
import Derived.Test.YtolpelfdhcccnaaGreatDoorPartSourceParses12
import Derived.Test.YtolpelfdhcccnaaGreatDoorPartSourceParses9
import Derived.Test.YtolpelfdhcccnaaGreatDoorPartSourceParses38
import Derived.Deep.SlicePairs
import Derived.SizedLaws
import Derived.Test.YtolpelfdhcccnaaGreatDoorPartSourceParses7
namespace Go.Proofs.YtolpelfdhcccnaaGreatDoor
open Go.ChangeShapes Go.WideShapes Go.ChangeAt Go.RowKit
theorem sizX : (Tryz.prog.info? 114).map (·.size) = some 4 := by kernel_rfl
/-- What is wrong, and where, as the document's value. -/
def wV (f : FL) : Value := .agg #[.int .i64 f.code, .int .u8 (f.kind : Int), .int .i64 (f.number : Int), .int .i64 (f.stop : Int)]
def manyF (g : GG) : FL :=
  if 32 < g.actors.length then ⟨81, 1, 32, 0⟩ else if 96 < g.edges.length then ⟨81, 2, 96, 0⟩ else if 16 < g.ins.length then ⟨81, 3, 16, 0⟩ else if 16 < g.outs.length then ⟨81, 4, 16, 0⟩ else fl0
set_option maxRecDepth 100000 in
set_option maxHeartbeats 4000000 in
theorem many8_any (g : GG) (a1 a2 a3 a4 : Option Addr) (c1 c2 c3 c4 : Nat) (w : World) (l1 : g.actors.length ≤ 1000000000000000) (l2 : g.edges.length ≤ 1000000000000000) (l3 : g.ins.length ≤ 1000000000000000) (l4 : g.outs.length ≤ 1000000000000000) :
    Calls Tryz.prog 100 #[.agg #[.string (str g.name), .slice a1 g.actors.length c1, .slice a2 g.edges.length c2, .slice a3 g.ins.length c3, .slice a4 g.outs.length c4]] w fun e w' => e = .returned (wV (manyF g)) ∧ Below w.heap.size w w' := by
  have ba := ((Below.refl w.heap.size w).alloc (Nat.le_refl _) (.cells #[.string (str g.name), .slice a1 g.actors.length c1, .slice a2 g.edges.length c2, .slice a3 g.ins.length c3, .slice a4 g.outs.length c4] 26)).alloc (by simp) (.cells #[.int .i64 0, .int .u8 0, .int .i64 0, .int .i64 0] 114)
  have BA := hiddenG ba
  have gg := (blkA_new 26 w #[.string (str g.name), .slice a1 g.actors.length c1, .slice a2 g.edges.length c2, .slice a3 g.ins.length c3, .slice a4 g.outs.length c4]).below ((Below.refl _ _).alloc (Nat.le_refl _) (.cells #[.int .i64 0, .int .u8 0, .int .i64 0, .int .i64 0] 114))
  have nr : BlkA 114 (w.heap.size + 1) ((w.alloc (.cells #[.string (str g.name), .slice a1 g.actors.length c1, .slice a2 g.edges.length c2, .slice a3 g.ins.length c3, .slice a4 g.outs.length c4] 26)).alloc (.cells #[.int .i64 0, .int .u8 0, .int .i64 0, .int .i64 0] 114)) #[.int .i64 0, .int .u8 0, .int .i64 0, .int .i64 0] := by
    have h3 := blkA_new 114 (w.alloc (.cells #[.string (str g.name), .slice a1 g.actors.length c1, .slice a2 g.edges.length c2, .slice a3 g.ins.length c3, .slice a4 g.outs.length c4] 26)) #[.int .i64 0, .int .u8 0, .int .i64 0, .int .i64 0]
    rw [World.size_alloc] at h3
    exact h3
  have NR := hiddenG nr
  have x1 := gg.cell (k := 1) rfl
  have x2 := gg.cell (k := 2) rfl
  have x3 := gg.cell (k := 3) rfl
  have x4 := gg.cell (k := 4) rfl
  have HD : Hid (manyF g = if 32 < g.actors.length then ⟨81, 1, 32, 0⟩ else if 96 < g.edges.length then ⟨81, 2, 96, 0⟩ else if 16 < g.ins.length then ⟨81, 3, 16, 0⟩ else if 16 < g.outs.length then ⟨81, 4, 16, 0⟩ else fl0) := by rfl
  clear ba gg nr
  generalize g.actors.length = n1 at *
  generalize g.edges.length = n2 at *
  generalize g.ins.length = n3 at *
  generalize g.outs.length = n4 at *
  by_cases k0 : 32 < n1
  · have i0 : (n1 : Int) > 32 := by omega
    go_enter Tryz.func100, Tryz.ntmps100
    go_upto_region 1 with fail
    generalize (w.alloc (.cells #[.string (str g.name), .slice a1 n1 c1, .slice a2 n2 c2, .slice a3 n3 c3, .slice a4 n4 c4] 26)).alloc (.cells #[.int .i64 0, .int .u8 0, .int .i64 0, .int .i64 0] 114) = W0 at *
    go_wp2_with (refine wpList_storeW _ rfl 114 (.tmp 2) (.tmp 7) rfl rfl (w.heap.size + 1) 114 _ _ rfl rfl NR.out sizX rfl rfl ?_; intro w9 hN hU; have N9 := hiddenG hN; have U9 := hiddenG hU; clear hN hU)
    have z0 : w9.cell? ⟨w.heap.size + 1, 0, none⟩ = some (.int .i64 81) := N9.out.cell rfl
    have z1 : w9.cell? ⟨w.heap.size + 1, 1, none⟩ = some (.int .u8 1) := N9.out.cell rfl
    have z2 : w9.cell? ⟨w.heap.size + 1, 2, none⟩ = some (.int .i64 32) := N9.out.cell rfl
    have z3 : w9.cell? ⟨w.heap.size + 1, 3, none⟩ = some (.int .i64 0) := N9.out.cell rfl
    refine bodyPost_ret (v := .agg #[.int .i64 81, .int .u8 1, .int .i64 32, .int .i64 0]) (by simp [results, Tryz.results100, go_sem, z0, z1, z2, z3]) rfl ?_
    exact ⟨by rw [HD.out, if_pos k0]; rfl, BA.out.trans (U9.out.below (Nat.le_succ _) BA.out.size)⟩
  · have i0 : ¬ (n1 : Int) > 32 := by omega
    by_cases k1 : 96 < n2
    · have i1 : (n2 : Int) > 96 := by omega
      go_enter Tryz.func100, Tryz.ntmps100
      go_upto_region 1 with fail
      generalize (w.alloc (.cells #[.string (str g.name), .slice a1 n1 c1, .slice a2 n2 c2, .slice a3 n3 c3, .slice a4 n4 c4] 26)).alloc (.cells #[.int .i64 0, .int .u8 0, .int .i64 0, .int .i64 0] 114) = W0 at *
      go_wp2_with (refine wpList_storeW _ rfl 114 (.tmp 2) (.tmp 12) rfl rfl (w.heap.size + 1) 114 _ _ rfl rfl NR.out sizX rfl rfl ?_; intro w9 hN hU; have N9 := hiddenG hN; have U9 := hiddenG hU; clear hN hU)
      have z0 : w9.cell? ⟨w.heap.size + 1, 0, none⟩ = some (.int .i64 81) := N9.out.cell rfl
      have z1 : w9.cell? ⟨w.heap.size + 1, 1, none⟩ = some (.int .u8 2) := N9.out.cell rfl
      have z2 : w9.cell? ⟨w.heap.size + 1, 2, none⟩ = some (.int .i64 96) := N9.out.cell rfl
      have z3 : w9.cell? ⟨w.heap.size + 1, 3, none⟩ = some (.int .i64 0) := N9.out.cell rfl
      refine bodyPost_ret (v := .agg #[.int .i64 81, .int .u8 2, .int .i64 96, .int .i64 0]) (by simp [results, Tryz.results100, go_sem, z0, z1, z2, z3]) rfl ?_
      exact ⟨by rw [HD.out, if_neg k0, if_pos k1]; rfl, BA.out.trans (U9.out.below (Nat.le_succ _) BA.out.size)⟩
    · have i1 : ¬ (n2 : Int) > 96 := by omega
      by_cases k2 : 16 < n3
      · have i2 : (n3 : Int) > 16 := by omega
        go_enter Tryz.func100, Tryz.ntmps100
        go_upto_region 1 with fail
        generalize (w.alloc (.cells #[.string (str g.name), .slice a1 n1 c1, .slice a2 n2 c2, .slice a3 n3 c3, .slice a4 n4 c4] 26)).alloc (.cells #[.int .i64 0, .int .u8 0, .int .i64 0, .int .i64 0] 114) = W0 at *
        go_wp2_with (refine wpList_storeW _ rfl 114 (.tmp 2) (.tmp 17) rfl rfl (w.heap.size + 1) 114 _ _ rfl rfl NR.out sizX rfl rfl ?_; intro w9 hN hU; have N9 := hiddenG hN; have U9 := hiddenG hU; clear hN hU)
        have z0 : w9.cell? ⟨w.heap.size + 1, 0, none⟩ = some (.int .i64 81) := N9.out.cell rfl
        have z1 : w9.cell? ⟨w.heap.size + 1, 1, none⟩ = some (.int .u8 3) := N9.out.cell rfl
        have z2 : w9.cell? ⟨w.heap.size + 1, 2, none⟩ = some (.int .i64 16) := N9.out.cell rfl
        have z3 : w9.cell? ⟨w.heap.size + 1, 3, none⟩ = some (.int .i64 0) := N9.out.cell rfl
        refine bodyPost_ret (v := .agg #[.int .i64 81, .int .u8 3, .int .i64 16, .int .i64 0]) (by simp [results, Tryz.results100, go_sem, z0, z1, z2, z3]) rfl ?_
        exact ⟨by rw [HD.out, if_neg k0, if_neg k1, if_pos k2]; rfl, BA.out.trans (U9.out.below (Nat.le_succ _) BA.out.size)⟩
      · have i2 : ¬ (n3 : Int) > 16 := by omega
        by_cases k3 : 16 < n4
        · have i3 : (n4 : Int) > 16 := by omega
          go_enter Tryz.func100, Tryz.ntmps100
          go_upto_region 1 with fail
          generalize (w.alloc (.cells #[.string (str g.name), .slice a1 n1 c1, .slice a2 n2 c2, .slice a3 n3 c3, .slice a4 n4 c4] 26)).alloc (.cells #[.int .i64 0, .int .u8 0, .int .i64 0, .int .i64 0] 114) = W0 at *
          go_wp2_with (refine wpList_storeW _ rfl 114 (.tmp 2) (.tmp 22) rfl rfl (w.heap.size + 1) 114 _ _ rfl rfl NR.out sizX rfl rfl ?_; intro w9 hN hU; have N9 := hiddenG hN; have U9 := hiddenG hU; clear hN hU)
          have z0 : w9.cell? ⟨w.heap.size + 1, 0, none⟩ = some (.int .i64 81) := N9.out.cell rfl
          have z1 : w9.cell? ⟨w.heap.size + 1, 1, none⟩ = some (.int .u8 4) := N9.out.cell rfl
          have z2 : w9.cell? ⟨w.heap.size + 1, 2, none⟩ = some (.int .i64 16) := N9.out.cell rfl
          have z3 : w9.cell? ⟨w.heap.size + 1, 3, none⟩ = some (.int .i64 0) := N9.out.cell rfl
          refine bodyPost_ret (v := .agg #[.int .i64 81, .int .u8 4, .int .i64 16, .int .i64 0]) (by simp [results, Tryz.results100, go_sem, z0, z1, z2, z3]) rfl ?_
          exact ⟨by rw [HD.out, if_neg k0, if_neg k1, if_neg k2, if_pos k3]; rfl, BA.out.trans (U9.out.below (Nat.le_succ _) BA.out.size)⟩
        · have i3 : ¬ (n4 : Int) > 16 := by omega
          go_enter Tryz.func100, Tryz.ntmps100
          go_upto_region 1 with fail
          generalize (w.alloc (.cells #[.string (str g.name), .slice a1 n1 c1, .slice a2 n2 c2, .slice a3 n3 c3, .slice a4 n4 c4] 26)).alloc (.cells #[.int .i64 0, .int .u8 0, .int .i64 0, .int .i64 0] 114) = W0 at *
          go_wp2_with (refine wpList_storeW _ rfl 114 (.tmp 2) (.tmp 23) rfl rfl (w.heap.size + 1) 114 _ _ rfl rfl NR.out sizX rfl rfl ?_; intro w9 hN hU; have N9 := hiddenG hN; have U9 := hiddenG hU; clear hN hU)
          have z0 : w9.cell? ⟨w.heap.size + 1, 0, none⟩ = some (.int .i64 0) := N9.out.cell rfl
          have z1 : w9.cell? ⟨w.heap.size + 1, 1, none⟩ = some (.int .u8 0) := N9.out.cell rfl
          have z2 : w9.cell? ⟨w.heap.size + 1, 2, none⟩ = some (.int .i64 0) := N9.out.cell rfl
          have z3 : w9.cell? ⟨w.heap.size + 1, 3, none⟩ = some (.int .i64 0) := N9.out.cell rfl
          refine bodyPost_ret (v := .agg #[.int .i64 0, .int .u8 0, .int .i64 0, .int .i64 0]) (by simp [results, Tryz.results100, go_sem, z0, z1, z2, z3]) rfl ?_
          exact ⟨by rw [HD.out, if_neg k0, if_neg k1, if_neg k2, if_neg k3]; rfl, BA.out.trans (U9.out.below (Nat.le_succ _) BA.out.size)⟩
theorem zero_loop' {f : Nat → Int × Nat} {k : Nat} : ∀ (n i : Nat), (∀ j, i ≤ j → j < i + n → (f j).1 = 0) → loopC n i f k = fl0
  | 0, _, _ => rfl
  | n + 1, i, h => by
    have e : loopC (n + 1) i f k = if (f i).1 ≠ 0 then ⟨(f i).1, k, i, (f i).2⟩ else loopC n (i + 1) f k := rfl
    rw [e, if_neg (fun q => q (h i (Nat.le_refl _) (by omega)))]
    exact zero_loop' n (i + 1) (fun j a b => h j (by omega) (by omega))
theorem step_stop {f : Nat → Int × Nat} {k n j : Nat} {R : FL} (hj : j < n) (h : (f j).1 ≠ 0) (ha : ∀ m, m < j → (f m).1 = 0) : (if (loopC n 0 f k).code ≠ 0 then loopC n 0 f k else R) = ⟨(f j).1, k, j, (f j).2⟩ := by
  have e := loop_stop (f := f) (k := k) n 0 j (Nat.zero_le _) (by omega) h (fun m _ b => ha m b)
  rw [e, if_pos h]
theorem step_on {f : Nat → Int × Nat} {k n : Nat} {R : FL} (ha : ∀ m, m < n → (f m).1 = 0) : (if (loopC n 0 f k).code ≠ 0 then loopC n 0 f k else R) = R := by
  rw [if_neg (fun q => q (zero_loop n 0 (fun j _ b => ha j (by omega))))]
def fS5 (g : GG) : FL := loopC g.actors.length 0 (openC g) 1
def fS4 (g : GG) : FL := if (loopC g.outs.length 0 (outC g) 4).code ≠ 0 then loopC g.outs.length 0 (outC g) 4 else fS5 g
def fS3 (g : GG) : FL := if (loopC g.ins.length 0 (inC g) 3).code ≠ 0 then loopC g.ins.length 0 (inC g) 3 else fS4 g
def fS2 (g : GG) : FL := if (loopC g.edges.length 0 (edgeC g) 2).code ≠ 0 then loopC g.edges.length 0 (edgeC g) 2 else fS3 g
def fS1 (g : GG) : FL := if (loopC g.actors.length 0 (fun i => (actorC g i, 0)) 1).code ≠ 0 then loopC g.actors.length 0 (fun i => (actorC g i, 0)) 1 else fS2 g
theorem find_head (g : GG) : findS g = if (headF g).code ≠ 0 then headF g else fS1 g := rfl
theorem head_many (g : GG) : headF g = if nameB g.name = false then ⟨82, 0, 0, 0⟩ else if g.actors.length = 0 then ⟨80, 0, 0, 0⟩ else manyF g := rfl
theorem find_name {g : GG} (h : nameB g.name = false) : findS g = ⟨82, 0, 0, 0⟩ := by rw [find_head, head_many, if_pos h]; rfl
theorem find_empty {g : GG} (h : nameB g.name = true) (h0 : g.actors.length = 0) : findS g = ⟨80, 0, 0, 0⟩ := by
  have e : headF g = ⟨80, 0, 0, 0⟩ := by rw [head_many, h, if_neg (by decide), if_pos h0]
  rw [find_head, e]; rfl
theorem find_many {g : GG} (h : nameB g.name = true) (h0 : g.actors.length ≠ 0) : findS g = if (manyF g).code ≠ 0 then manyF g else fS1 g := by
  have e : headF g = manyF g := by rw [head_many, h, if_neg (by decide), if_neg h0]
  rw [find_head, e]
/-- The two boxes of Find. -/
def FBox (w : World) (gv : Array Value) (u : World) : Prop := GBox w gv u ∧ BlkA 114 (w.heap.size + 1) u #[.int .i64 0, .int .u8 0, .int .i64 0, .int .i64 0]
theorem FBox.low {w u : World} {gv : Array Value} (h : FBox w gv u) : Below w.heap.size w u := h.1.2
theorem FBox.later {w u u' : World} {gv : Array Value} (h : FBox w gv u) (hb : Below u.heap.size u u') : FBox w gv u' := ⟨h.1.later hb, h.2.below hb⟩
theorem fbox_new (w : World) (gv : Array Value) : FBox w gv ((w.alloc (.cells gv 26)).alloc (.cells #[.int .i64 0, .int .u8 0, .int .i64 0, .int .i64 0] 114)) := by
  refine ⟨(gbox_new w gv).later ((Below.refl _ _).alloc (Nat.le_refl _) _), ?_⟩
  have h3 := blkA_new 114 (w.alloc (.cells gv 26)) #[.int .i64 0, .int .u8 0, .int .i64 0, .int .i64 0]
  rw [World.size_alloc] at h3
  exact h3
set_option maxRecDepth 100000 in
set_option maxHeartbeats 8000000 in
theorem find8_any (g : GG) (a1 a2 a3 a4 : Option Addr) (c1 c2 c3 c4 : Nat) (w : World) (h : GrG w a1 a2 a3 a4 g) :
    Calls Tryz.prog 59 #[.agg #[.string (str g.name), .slice a1 g.actors.length c1, .slice a2 g.edges.length c2, .slice a3 g.ins.length c3, .slice a4 g.outs.length c4]] w fun e w' => e = .returned (wV (findS g)) ∧ Below w.heap.size w w' := by
  have HG := hiddenG h
  have n1 : (g.actors.length : Int) ≤ 1000000000000000 := by have := h.l1; omega
  have n2 : (g.edges.length : Int) ≤ 1000000000000000 := by have := h.l2; omega
  have n3 : (g.ins.length : Int) ≤ 1000000000000000 := by have := h.l3; omega
  have n4 : (g.outs.length : Int) ≤ 1000000000000000 := by have := h.l4; omega
  have RN : Hid (∀ U, Calls Tryz.prog 72 #[.string (str g.name)] U fun e w' => e = .returned (.bool (nameB g.name)) ∧ U = w') := fun U => rname_any _ U
  have MN0 : ∀ U, Calls Tryz.prog 100 #[.agg #[.string (str g.name), .slice a1 g.actors.length c1, .slice a2 g.edges.length c2, .slice a3 g.ins.length c3, .slice a4 g.outs.length c4]] U fun e w' => e = .returned (wV (manyF g)) ∧ Below U.heap.size U w' := fun U => many8_any g a1 a2 a3 a4 c1 c2 c3 c4 U h.l1 h.l2 h.l3 h.l4
  have Cactor : Hid (∀ U (k : Nat), Below w.heap.size w U → k < g.actors.length → Calls Tryz.prog 101 #[.agg #[.string (str g.name), .slice a1 g.actors.length c1, .slice a2 g.edges.length c2, .slice a3 g.ins.length c3, .slice a4 g.outs.length c4], .int .i64 (k : Int)] U fun e w' => e = .returned (.int .i64 (actorC g k)) ∧ Below U.heap.size U w') := fun U k hb hk => actor8_any g a1 a2 a3 a4 c1 c2 c3 c4 k U (HG.out.below hb) hk
  have Cedge : Hid (∀ U (k : Nat), Below w.heap.size w U → k < g.edges.length → Calls Tryz.prog 102 #[.agg #[.string (str g.name), .slice a1 g.actors.length c1, .slice a2 g.edges.length c2, .slice a3 g.ins.length c3, .slice a4 g.outs.length c4], .int .i64 (k : Int)] U fun e w' => e = .returned (.tuple #[.int .i64 (edgeC g k).1, .int .i64 ((edgeC g k).2 : Int)]) ∧ Below U.heap.size U w') := fun U k hb hk => edge8_any g a1 a2 a3 a4 c1 c2 c3 c4 k U (HG.out.below hb) hk
  have Cin : Hid (∀ U (k : Nat), Below w.heap.size w U → k < g.ins.length → Calls Tryz.prog 103 #[.agg #[.string (str g.name), .slice a1 g.actors.length c1, .slice a2 g.edges.length c2, .slice a3 g.ins.length c3, .slice a4 g.outs.length c4], .int .i64 (k : Int)] U fun e w' => e = .returned (.tuple #[.int .i64 (inC g k).1, .int .i64 ((inC g k).2 : Int)]) ∧ Below U.heap.size U w') := fun U k hb hk => in8_any g a1 a2 a3 a4 c1 c2 c3 c4 k U (HG.out.below hb) hk
  have Cout : Hid (∀ U (k : Nat), Below w.heap.size w U → k < g.outs.length → Calls Tryz.prog 104 #[.agg #[.string (str g.name), .slice a1 g.actors.length c1, .slice a2 g.edges.length c2, .slice a3 g.ins.length c3, .slice a4 g.outs.length c4], .int .i64 (k : Int)] U fun e w' => e = .returned (.tuple #[.int .i64 (outC g k).1, .int .i64 ((outC g k).2 : Int)]) ∧ Below U.heap.size U w') := fun U k hb hk => out8_any g a1 a2 a3 a4 c1 c2 c3 c4 k U (HG.out.below hb) hk
  have Copen : Hid (∀ U (k : Nat), Below w.heap.size w U → k < g.actors.length → Calls Tryz.prog 105 #[.agg #[.string (str g.name), .slice a1 g.actors.length c1, .slice a2 g.edges.length c2, .slice a3 g.ins.length c3, .slice a4 g.outs.length c4], .int .i64 (k : Int)] U fun e w' => e = .returned (.bool (openB g k)) ∧ Below U.heap.size U w') := fun U k hb hk => open8_any g a1 a2 a3 a4 c1 c2 c3 c4 k U (HG.out.below hb) hk
  have B0 := hiddenG (fbox_new w #[.string (str g.name), .slice a1 g.actors.length c1, .slice a2 g.edges.length c2, .slice a3 g.ins.length c3, .slice a4 g.outs.length c4])
  have FN : Hid (nameB g.name = false → findS g = ⟨82, 0, 0, 0⟩) := find_name
  have FE : Hid (nameB g.name = true → g.actors.length = 0 → findS g = ⟨80, 0, 0, 0⟩) := find_empty
  have FM : Hid (nameB g.name = true → g.actors.length ≠ 0 → findS g = if (manyF g).code ≠ 0 then manyF g else fS1 g) := find_many
  clear h HG
  generalize nameB g.name = q0 at *
  cases q0
  · have F0 : Hid (findS g = ⟨82, 0, 0, 0⟩) := FN.out rfl
    clear FN FE FM MN0
    go_enter Tryz.func59, Tryz.ntmps59
    go_upto_region 1 with fail
    generalize (w.alloc (.cells #[.string (str g.name), .slice a1 g.actors.length c1, .slice a2 g.edges.length c2, .slice a3 g.ins.length c3, .slice a4 g.outs.length c4] 26)).alloc (.cells #[.int .i64 0, .int .u8 0, .int .i64 0, .int .i64 0] 114) = W0 at *
    have g0 : W0.cell? ⟨w.heap.size, 0, none⟩ = some (.string (str g.name)) := B0.out.1.1.cell rfl
    have g1 : W0.cell? ⟨w.heap.size, 1, none⟩ = some (.slice a1 g.actors.length c1) := B0.out.1.1.cell rfl
    have g2 : W0.cell? ⟨w.heap.size, 2, none⟩ = some (.slice a2 g.edges.length c2) := B0.out.1.1.cell rfl
    have g3 : W0.cell? ⟨w.heap.size, 3, none⟩ = some (.slice a3 g.ins.length c3) := B0.out.1.1.cell rfl
    have g4 : W0.cell? ⟨w.heap.size, 4, none⟩ = some (.slice a4 g.outs.length c4) := B0.out.1.1.cell rfl
    go_wp2_with (first
      | (refine wpList_storeW _ rfl 114 (.tmp 2) (.tmp 20) rfl rfl (w.heap.size + 1) 114 _ _ rfl rfl B0.out.2 sizX rfl rfl ?_; intro w9 hN hU; have N9 := hiddenG hN; have U9 := hiddenG hU; clear hN hU)
      | (go_at_call 72; (with_reducible refine (RN.out _).mono ?_); rintro e w' ⟨rfl, rfl⟩))
    have z0 : w9.cell? ⟨w.heap.size + 1, 0, none⟩ = some (.int .i64 82) := N9.out.cell rfl
    have z1 : w9.cell? ⟨w.heap.size + 1, 1, none⟩ = some (.int .u8 0) := N9.out.cell rfl
    have z2 : w9.cell? ⟨w.heap.size + 1, 2, none⟩ = some (.int .i64 0) := N9.out.cell rfl
    have z3 : w9.cell? ⟨w.heap.size + 1, 3, none⟩ = some (.int .i64 0) := N9.out.cell rfl
    refine bodyPost_ret (v := .agg #[.int .i64 82, .int .u8 0, .int .i64 0, .int .i64 0]) (by simp [results, Tryz.results59, go_sem, z0, z1, z2, z3]) rfl ?_
    exact ⟨by rw [F0.out]; rfl, B0.out.low.trans (U9.out.below (Nat.le_succ _) B0.out.low.size)⟩
  by_cases hz : g.actors.length = 0
  · have F0 : Hid (findS g = ⟨80, 0, 0, 0⟩) := FE.out rfl hz
    have j0 : ((g.actors.length : Int) == 0) = true := by simpa using hz
    clear FN FE FM MN0 hz
    go_enter Tryz.func59, Tryz.ntmps59
    go_upto_region 1 with fail
    generalize (w.alloc (.cells #[.string (str g.name), .slice a1 g.actors.length c1, .slice a2 g.edges.length c2, .slice a3 g.ins.length c3, .slice a4 g.outs.length c4] 26)).alloc (.cells #[.int .i64 0, .int .u8 0, .int .i64 0, .int .i64 0] 114) = W0 at *
    have g0 : W0.cell? ⟨w.heap.size, 0, none⟩ = some (.string (str g.name)) := B0.out.1.1.cell rfl
    have g1 : W0.cell? ⟨w.heap.size, 1, none⟩ = some (.slice a1 g.actors.length c1) := B0.out.1.1.cell rfl
    have g2 : W0.cell? ⟨w.heap.size, 2, none⟩ = some (.slice a2 g.edges.length c2) := B0.out.1.1.cell rfl
    have g3 : W0.cell? ⟨w.heap.size, 3, none⟩ = some (.slice a3 g.ins.length c3) := B0.out.1.1.cell rfl
    have g4 : W0.cell? ⟨w.heap.size, 4, none⟩ = some (.slice a4 g.outs.length c4) := B0.out.1.1.cell rfl
    go_wp2_with (first
      | (refine wpList_storeW _ rfl 114 (.tmp 2) (.tmp 25) rfl rfl (w.heap.size + 1) 114 _ _ rfl rfl B0.out.2 sizX rfl rfl ?_; intro w9 hN hU; have N9 := hiddenG hN; have U9 := hiddenG hU; clear hN hU)
      | (go_at_call 72; (with_reducible refine (RN.out _).mono ?_); rintro e w' ⟨rfl, rfl⟩))
    have z0 : w9.cell? ⟨w.heap.size + 1, 0, none⟩ = some (.int .i64 80) := N9.out.cell rfl
    have z1 : w9.cell? ⟨w.heap.size + 1, 1, none⟩ = some (.int .u8 0) := N9.out.cell rfl
    have z2 : w9.cell? ⟨w.heap.size + 1, 2, none⟩ = some (.int .i64 0) := N9.out.cell rfl
    have z3 : w9.cell? ⟨w.heap.size + 1, 3, none⟩ = some (.int .i64 0) := N9.out.cell rfl
    refine bodyPost_ret (v := .agg #[.int .i64 80, .int .u8 0, .int .i64 0, .int .i64 0]) (by simp [results, Tryz.results59, go_sem, z0, z1, z2, z3]) rfl ?_
    exact ⟨by rw [F0.out]; rfl, B0.out.low.trans (U9.out.below (Nat.le_succ _) B0.out.low.size)⟩
  have j0 : ((g.actors.length : Int) == 0) = false := by simpa using hz
  have F1 : Hid (findS g = if (manyF g).code ≠ 0 then manyF g else fS1 g) := FM.out rfl hz
  obtain ⟨mf, hmf⟩ : ∃ q, manyF g = q := ⟨_, rfl⟩
  rw [hmf] at F1 MN0
  clear hmf FN FE FM hz
  obtain ⟨mc, mk, mn, ms⟩ := mf
  have MN : Hid (∀ U, Calls Tryz.prog 100 #[.agg #[.string (str g.name), .slice a1 g.actors.length c1, .slice a2 g.edges.length c2, .slice a3 g.ins.length c3, .slice a4 g.outs.length c4]] U fun e w' => e = .returned (.agg #[.int .i64 mc, .int .u8 (mk : Int), .int .i64 (mn : Int), .int .i64 (ms : Int)]) ∧ Below U.heap.size U w') := MN0
  clear MN0
  have FY : Hid (mc ≠ 0 → findS g = ⟨mc, mk, mn, ms⟩) := fun e => by rw [F1.out, if_pos e]
  have FO : Hid (mc = 0 → findS g = fS1 g) := fun e => by rw [F1.out, if_neg (fun q => q e)]
  clear F1
  go_enter Tryz.func59, Tryz.ntmps59
  go_upto_region 1 with fail
  generalize (w.alloc (.cells #[.string (str g.name), .slice a1 g.actors.length c1, .slice a2 g.edges.length c2, .slice a3 g.ins.length c3, .slice a4 g.outs.length c4] 26)).alloc (.cells #[.int .i64 0, .int .u8 0, .int .i64 0, .int .i64 0] 114) = W0 at *
  have g0 : W0.cell? ⟨w.heap.size, 0, none⟩ = some (.string (str g.name)) := B0.out.1.1.cell rfl
  have g1 : W0.cell? ⟨w.heap.size, 1, none⟩ = some (.slice a1 g.actors.length c1) := B0.out.1.1.cell rfl
  have g2 : W0.cell? ⟨w.heap.size, 2, none⟩ = some (.slice a2 g.edges.length c2) := B0.out.1.1.cell rfl
  have g3 : W0.cell? ⟨w.heap.size, 3, none⟩ = some (.slice a3 g.ins.length c3) := B0.out.1.1.cell rfl
  have g4 : W0.cell? ⟨w.heap.size, 4, none⟩ = some (.slice a4 g.outs.length c4) := B0.out.1.1.cell rfl
  go_upto_region 6 with (first
    | (go_at_call 100; (with_reducible refine (MN.out _).mono ?_); rintro e w1 ⟨rfl, b1⟩; have B1 := hiddenG (B0.out.later b1); clear b1)
    | (go_at_call 72; (with_reducible refine (RN.out _).mono ?_); rintro e w' ⟨rfl, rfl⟩))
  have BX := hiddenG (blkA_new 114 w1 #[.int .i64 mc, .int .u8 (mk : Int), .int .i64 (mn : Int), .int .i64 (ms : Int)])
  have B2 := hiddenG (B1.out.later ((Below.refl _ _).alloc (Nat.le_refl _) (.cells #[.int .i64 mc, .int .u8 (mk : Int), .int .i64 (mn : Int), .int .i64 (ms : Int)] 114)))
  generalize w1.alloc (.cells #[.int .i64 mc, .int .u8 (mk : Int), .int .i64 (mn : Int), .int .i64 (ms : Int)] 114) = V at *
  have m0 := BX.out.cell (k := 0) rfl
  have m1 := BX.out.cell (k := 1) rfl
  have m2 := BX.out.cell (k := 2) rfl
  have m3 := BX.out.cell (k := 3) rfl
  clear g0 g1 g2 g3 g4 BX MN RN j0
  by_cases hm : mc = 0
  · subst hm
    have FS1 : Hid (findS g = fS1 g) := FO.out rfl
    clear FO FY
    go_wp2
    clear m0 m1 m2 m3
    go_loopg [4] g.actors.length (fun gk v wr => ∃ k : Nat, k ≤ g.actors.length ∧ gk = g.actors.length - k ∧ v = .int .i64 (k : Int) ∧ FBox w #[.string (str g.name), .slice a1 g.actors.length c1, .slice a2 g.edges.length c2, .slice a3 g.ins.length c3, .slice a4 g.outs.length c4] wr ∧ ∀ j : Nat, j < k → ((fun i => (actorC g i, 0)) j).1 = 0)
    case atStart => exact ⟨0, Nat.zero_le _, rfl, rfl, B2.out, fun j hj => absurd hj (Nat.not_lt_zero _)⟩
    case round =>
      clear B2 B1 B0
      obtain ⟨k, hk, rfl, rfl, hB, hall⟩ := hrel
      have HB := hiddenG hB
      have HAL := hiddenG hall
      have g0 : wr.cell? ⟨w.heap.size, 0, none⟩ = some (.string (str g.name)) := hB.1.1.cell rfl
      have g1 : wr.cell? ⟨w.heap.size, 1, none⟩ = some (.slice a1 g.actors.length c1) := hB.1.1.cell rfl
      have g2 : wr.cell? ⟨w.heap.size, 2, none⟩ = some (.slice a2 g.edges.length c2) := hB.1.1.cell rfl
      have g3 : wr.cell? ⟨w.heap.size, 3, none⟩ = some (.slice a3 g.ins.length c3) := hB.1.1.cell rfl
      have g4 : wr.cell? ⟨w.heap.size, 4, none⟩ = some (.slice a4 g.outs.length c4) := hB.1.1.cell rfl
      clear hB hall
      by_cases hlt : k < g.actors.length
      · have hki : (k : Int) < (g.actors.length : Int) := by omega
        have HNO : Hid (((fun i => (actorC g i, 0)) k).1 = 0 → ∀ j : Nat, j < k + 1 → ((fun i => (actorC g i, 0)) j).1 = 0) := fun e j hj => by
          by_cases q : j < k
          · exact HAL.out j q
          · rw [show j = k by omega]; exact e
        have CK := hiddenG (Cactor.out wr k HB.out.low hlt)
        have HYES : Hid (((fun i => (actorC g i, 0)) k).1 ≠ 0 → findS g = ⟨((fun i => (actorC g i, 0)) k).1, 1, k, ((fun i => (actorC g i, 0)) k).2⟩) := fun e => by rw [FS1.out]; unfold fS1; rw [step_stop hlt e HAL.out]
        obtain ⟨q1, hq1⟩ : ∃ q, actorC g k = q := ⟨_, rfl⟩
        simp only [hq1] at HYES HNO CK
        clear hq1
        by_cases hc : q1 = 0
        · subst hc
          clear HYES
          go_wp2_with (go_at_call 101; (with_reducible refine CK.out.mono ?_); rintro e w3 ⟨rfl, b3⟩; have B3 := hiddenG (HB.out.later b3); clear b3)
          go_roundg (g.actors.length - (k + 1))
          case measure => omega
          case rel => exact ⟨k + 1, by omega, rfl, by go_num, B3.out, HNO.out (by trivial)⟩
        · have hc2 : (q1 != 0) = true := by simpa using hc
          have F3 := hiddenG (HYES.out hc)
          clear HYES HNO
          go_wp2_with (first
            | (refine wpList_storeW _ rfl 114 (.tmp 2) (.tmp 46) rfl rfl (w.heap.size + 1) 114 _ _ rfl rfl B3.out.2 sizX rfl rfl ?_; intro w9 hN hU; have N9 := hiddenG hN; have U9 := hiddenG hU; clear hN hU)
            | (go_at_call 101; (with_reducible refine CK.out.mono ?_); rintro e w3 ⟨rfl, b3⟩; have B3 := hiddenG (HB.out.later b3); clear b3))
          have z0 : w9.cell? ⟨w.heap.size + 1, 0, none⟩ = some (.int .i64 q1) := N9.out.cell rfl
          have z1 : w9.cell? ⟨w.heap.size + 1, 1, none⟩ = some (.int .u8 1) := N9.out.cell rfl
          have z2 : w9.cell? ⟨w.heap.size + 1, 2, none⟩ = some (.int .i64 (k : Int)) := N9.out.cell rfl
          have z3 : w9.cell? ⟨w.heap.size + 1, 3, none⟩ = some (.int .i64 0) := N9.out.cell rfl
          refine bodyPost_ret (v := .agg #[.int .i64 q1, .int .u8 1, .int .i64 (k : Int), .int .i64 0]) (by simp [results, Tryz.results59, go_sem, z0, z1, z2, z3]) rfl ?_
          exact ⟨by rw [F3.out]; rfl, B3.out.low.trans (U9.out.below (Nat.le_succ _) B3.out.low.size)⟩
      · have hki : ¬ (k : Int) < (g.actors.length : Int) := by omega
        have FS2 : Hid (findS g = fS2 g) := by show _ = _; rw [FS1.out]; unfold fS1; rw [step_on (fun m b => HAL.out m (by omega))]
        clear HAL hlt hk FS1
        go_wp2
        clear g0 g1 g2 g3 g4
        go_loopg [6] g.edges.length (fun gk v wr => ∃ k : Nat, k ≤ g.edges.length ∧ gk = g.edges.length - k ∧ v = .int .i64 (k : Int) ∧ FBox w #[.string (str g.name), .slice a1 g.actors.length c1, .slice a2 g.edges.length c2, .slice a3 g.ins.length c3, .slice a4 g.outs.length c4] wr ∧ ∀ j : Nat, j < k → ((edgeC g) j).1 = 0)
        case atStart => exact ⟨0, Nat.zero_le _, rfl, rfl, HB.out, fun j hj => absurd hj (Nat.not_lt_zero _)⟩
        case round =>
          clear HB hki
          obtain ⟨k, hk, rfl, rfl, hB, hall⟩ := hrel
          have HB := hiddenG hB
          have HAL := hiddenG hall
          have g0 : wr.cell? ⟨w.heap.size, 0, none⟩ = some (.string (str g.name)) := hB.1.1.cell rfl
          have g1 : wr.cell? ⟨w.heap.size, 1, none⟩ = some (.slice a1 g.actors.length c1) := hB.1.1.cell rfl
          have g2 : wr.cell? ⟨w.heap.size, 2, none⟩ = some (.slice a2 g.edges.length c2) := hB.1.1.cell rfl
          have g3 : wr.cell? ⟨w.heap.size, 3, none⟩ = some (.slice a3 g.ins.length c3) := hB.1.1.cell rfl
          have g4 : wr.cell? ⟨w.heap.size, 4, none⟩ = some (.slice a4 g.outs.length c4) := hB.1.1.cell rfl
          clear hB hall
          by_cases hlt : k < g.edges.length
          · have hki : (k : Int) < (g.edges.length : Int) := by omega
            have HNO : Hid (((edgeC g) k).1 = 0 → ∀ j : Nat, j < k + 1 → ((edgeC g) j).1 = 0) := fun e j hj => by
              by_cases q : j < k
              · exact HAL.out j q
              · rw [show j = k by omega]; exact e
            have CK := hiddenG (Cedge.out wr k HB.out.low hlt)
            have HYES : Hid (((edgeC g) k).1 ≠ 0 → findS g = ⟨((edgeC g) k).1, 2, k, ((edgeC g) k).2⟩) := fun e => by rw [FS2.out]; unfold fS2; rw [step_stop hlt e HAL.out]
            obtain ⟨q1, hq1⟩ : ∃ q, edgeC g k = q := ⟨_, rfl⟩
            simp only [hq1] at HYES HNO CK
            clear hq1
            obtain ⟨q1, sx⟩ := q1
            simp only at HYES HNO CK
            by_cases hc : q1 = 0
            · subst hc
              clear HYES
              go_wp2_with (go_at_call 102; (with_reducible refine CK.out.mono ?_); rintro e w3 ⟨rfl, b3⟩; have B3 := hiddenG (HB.out.later b3); clear b3)
              go_roundg (g.edges.length - (k + 1))
              case measure => omega
              case rel => exact ⟨k + 1, by omega, rfl, by go_num, B3.out, HNO.out (by trivial)⟩
            · have hc2 : (q1 != 0) = true := by simpa using hc
              have F3 := hiddenG (HYES.out hc)
              clear HYES HNO
              go_wp2_with (first
                | (refine wpList_storeW _ rfl 114 (.tmp 2) (.tmp 65) rfl rfl (w.heap.size + 1) 114 _ _ rfl rfl B3.out.2 sizX rfl rfl ?_; intro w9 hN hU; have N9 := hiddenG hN; have U9 := hiddenG hU; clear hN hU)
                | (go_at_call 102; (with_reducible refine CK.out.mono ?_); rintro e w3 ⟨rfl, b3⟩; have B3 := hiddenG (HB.out.later b3); clear b3))
              have z0 : w9.cell? ⟨w.heap.size + 1, 0, none⟩ = some (.int .i64 q1) := N9.out.cell rfl
              have z1 : w9.cell? ⟨w.heap.size + 1, 1, none⟩ = some (.int .u8 2) := N9.out.cell rfl
              have z2 : w9.cell? ⟨w.heap.size + 1, 2, none⟩ = some (.int .i64 (k : Int)) := N9.out.cell rfl
              have z3 : w9.cell? ⟨w.heap.size + 1, 3, none⟩ = some (.int .i64 (sx : Int)) := N9.out.cell rfl
              refine bodyPost_ret (v := .agg #[.int .i64 q1, .int .u8 2, .int .i64 (k : Int), .int .i64 (sx : Int)]) (by simp [results, Tryz.results59, go_sem, z0, z1, z2, z3]) rfl ?_
              exact ⟨by rw [F3.out]; rfl, B3.out.low.trans (U9.out.below (Nat.le_succ _) B3.out.low.size)⟩
          · have hki : ¬ (k : Int) < (g.edges.length : Int) := by omega
            have FS3 : Hid (findS g = fS3 g) := by show _ = _; rw [FS2.out]; unfold fS2; rw [step_on (fun m b => HAL.out m (by omega))]
            clear HAL hlt hk FS2
            go_wp2
            clear g0 g1 g2 g3 g4
            go_loopg [9] g.ins.length (fun gk v wr => ∃ k : Nat, k ≤ g.ins.length ∧ gk = g.ins.length - k ∧ v = .int .i64 (k : Int) ∧ FBox w #[.string (str g.name), .slice a1 g.actors.length c1, .slice a2 g.edges.length c2, .slice a3 g.ins.length c3, .slice a4 g.outs.length c4] wr ∧ ∀ j : Nat, j < k → ((inC g) j).1 = 0)
            case atStart => exact ⟨0, Nat.zero_le _, rfl, rfl, HB.out, fun j hj => absurd hj (Nat.not_lt_zero _)⟩
            case round =>
              clear HB hki
              obtain ⟨k, hk, rfl, rfl, hB, hall⟩ := hrel
              have HB := hiddenG hB
              have HAL := hiddenG hall
              have g0 : wr.cell? ⟨w.heap.size, 0, none⟩ = some (.string (str g.name)) := hB.1.1.cell rfl
              have g1 : wr.cell? ⟨w.heap.size, 1, none⟩ = some (.slice a1 g.actors.length c1) := hB.1.1.cell rfl
              have g2 : wr.cell? ⟨w.heap.size, 2, none⟩ = some (.slice a2 g.edges.length c2) := hB.1.1.cell rfl
              have g3 : wr.cell? ⟨w.heap.size, 3, none⟩ = some (.slice a3 g.ins.length c3) := hB.1.1.cell rfl
              have g4 : wr.cell? ⟨w.heap.size, 4, none⟩ = some (.slice a4 g.outs.length c4) := hB.1.1.cell rfl
              clear hB hall
              by_cases hlt : k < g.ins.length
              · have hki : (k : Int) < (g.ins.length : Int) := by omega
                have HNO : Hid (((inC g) k).1 = 0 → ∀ j : Nat, j < k + 1 → ((inC g) j).1 = 0) := fun e j hj => by
                  by_cases q : j < k
                  · exact HAL.out j q
                  · rw [show j = k by omega]; exact e
                have CK := hiddenG (Cin.out wr k HB.out.low hlt)
                have HYES : Hid (((inC g) k).1 ≠ 0 → findS g = ⟨((inC g) k).1, 3, k, ((inC g) k).2⟩) := fun e => by rw [FS3.out]; unfold fS3; rw [step_stop hlt e HAL.out]
                obtain ⟨q1, hq1⟩ : ∃ q, inC g k = q := ⟨_, rfl⟩
                simp only [hq1] at HYES HNO CK
                clear hq1
                obtain ⟨q1, sx⟩ := q1
                simp only at HYES HNO CK
                by_cases hc : q1 = 0
                · subst hc
                  clear HYES
                  go_wp2_with (go_at_call 103; (with_reducible refine CK.out.mono ?_); rintro e w3 ⟨rfl, b3⟩; have B3 := hiddenG (HB.out.later b3); clear b3)
                  go_roundg (g.ins.length - (k + 1))
                  case measure => omega
                  case rel => exact ⟨k + 1, by omega, rfl, by go_num, B3.out, HNO.out (by trivial)⟩
                · have hc2 : (q1 != 0) = true := by simpa using hc
                  have F3 := hiddenG (HYES.out hc)
                  clear HYES HNO
                  go_wp2_with (first
                    | (refine wpList_storeW _ rfl 114 (.tmp 2) (.tmp 84) rfl rfl (w.heap.size + 1) 114 _ _ rfl rfl B3.out.2 sizX rfl rfl ?_; intro w9 hN hU; have N9 := hiddenG hN; have U9 := hiddenG hU; clear hN hU)
                    | (go_at_call 103; (with_reducible refine CK.out.mono ?_); rintro e w3 ⟨rfl, b3⟩; have B3 := hiddenG (HB.out.later b3); clear b3))
                  have z0 : w9.cell? ⟨w.heap.size + 1, 0, none⟩ = some (.int .i64 q1) := N9.out.cell rfl
                  have z1 : w9.cell? ⟨w.heap.size + 1, 1, none⟩ = some (.int .u8 3) := N9.out.cell rfl
                  have z2 : w9.cell? ⟨w.heap.size + 1, 2, none⟩ = some (.int .i64 (k : Int)) := N9.out.cell rfl
                  have z3 : w9.cell? ⟨w.heap.size + 1, 3, none⟩ = some (.int .i64 (sx : Int)) := N9.out.cell rfl
                  refine bodyPost_ret (v := .agg #[.int .i64 q1, .int .u8 3, .int .i64 (k : Int), .int .i64 (sx : Int)]) (by simp [results, Tryz.results59, go_sem, z0, z1, z2, z3]) rfl ?_
                  exact ⟨by rw [F3.out]; rfl, B3.out.low.trans (U9.out.below (Nat.le_succ _) B3.out.low.size)⟩
              · have hki : ¬ (k : Int) < (g.ins.length : Int) := by omega
                have FS4 : Hid (findS g = fS4 g) := by show _ = _; rw [FS3.out]; unfold fS3; rw [step_on (fun m b => HAL.out m (by omega))]
                clear HAL hlt hk FS3
                go_wp2
                clear g0 g1 g2 g3 g4
                go_loopg [12] g.outs.length (fun gk v wr => ∃ k : Nat, k ≤ g.outs.length ∧ gk = g.outs.length - k ∧ v = .int .i64 (k : Int) ∧ FBox w #[.string (str g.name), .slice a1 g.actors.length c1, .slice a2 g.edges.length c2, .slice a3 g.ins.length c3, .slice a4 g.outs.length c4] wr ∧ ∀ j : Nat, j < k → ((outC g) j).1 = 0)
                case atStart => exact ⟨0, Nat.zero_le _, rfl, rfl, HB.out, fun j hj => absurd hj (Nat.not_lt_zero _)⟩
                case round =>
                  clear HB hki
                  obtain ⟨k, hk, rfl, rfl, hB, hall⟩ := hrel
                  have HB := hiddenG hB
                  have HAL := hiddenG hall
                  have g0 : wr.cell? ⟨w.heap.size, 0, none⟩ = some (.string (str g.name)) := hB.1.1.cell rfl
                  have g1 : wr.cell? ⟨w.heap.size, 1, none⟩ = some (.slice a1 g.actors.length c1) := hB.1.1.cell rfl
                  have g2 : wr.cell? ⟨w.heap.size, 2, none⟩ = some (.slice a2 g.edges.length c2) := hB.1.1.cell rfl
                  have g3 : wr.cell? ⟨w.heap.size, 3, none⟩ = some (.slice a3 g.ins.length c3) := hB.1.1.cell rfl
                  have g4 : wr.cell? ⟨w.heap.size, 4, none⟩ = some (.slice a4 g.outs.length c4) := hB.1.1.cell rfl
                  clear hB hall
                  by_cases hlt : k < g.outs.length
                  · have hki : (k : Int) < (g.outs.length : Int) := by omega
                    have HNO : Hid (((outC g) k).1 = 0 → ∀ j : Nat, j < k + 1 → ((outC g) j).1 = 0) := fun e j hj => by
                      by_cases q : j < k
                      · exact HAL.out j q
                      · rw [show j = k by omega]; exact e
                    have CK := hiddenG (Cout.out wr k HB.out.low hlt)
                    have HYES : Hid (((outC g) k).1 ≠ 0 → findS g = ⟨((outC g) k).1, 4, k, ((outC g) k).2⟩) := fun e => by rw [FS4.out]; unfold fS4; rw [step_stop hlt e HAL.out]
                    obtain ⟨q1, hq1⟩ : ∃ q, outC g k = q := ⟨_, rfl⟩
                    simp only [hq1] at HYES HNO CK
                    clear hq1
                    obtain ⟨q1, sx⟩ := q1
                    simp only at HYES HNO CK
                    by_cases hc : q1 = 0
                    · subst hc
                      clear HYES
                      go_wp2_with (go_at_call 104; (with_reducible refine CK.out.mono ?_); rintro e w3 ⟨rfl, b3⟩; have B3 := hiddenG (HB.out.later b3); clear b3)
                      go_roundg (g.outs.length - (k + 1))
                      case measure => omega
                      case rel => exact ⟨k + 1, by omega, rfl, by go_num, B3.out, HNO.out (by trivial)⟩
                    · have hc2 : (q1 != 0) = true := by simpa using hc
                      have F3 := hiddenG (HYES.out hc)
                      clear HYES HNO
                      go_wp2_with (first
                        | (refine wpList_storeW _ rfl 114 (.tmp 2) (.tmp 103) rfl rfl (w.heap.size + 1) 114 _ _ rfl rfl B3.out.2 sizX rfl rfl ?_; intro w9 hN hU; have N9 := hiddenG hN; have U9 := hiddenG hU; clear hN hU)
                        | (go_at_call 104; (with_reducible refine CK.out.mono ?_); rintro e w3 ⟨rfl, b3⟩; have B3 := hiddenG (HB.out.later b3); clear b3))
                      have z0 : w9.cell? ⟨w.heap.size + 1, 0, none⟩ = some (.int .i64 q1) := N9.out.cell rfl
                      have z1 : w9.cell? ⟨w.heap.size + 1, 1, none⟩ = some (.int .u8 4) := N9.out.cell rfl
                      have z2 : w9.cell? ⟨w.heap.size + 1, 2, none⟩ = some (.int .i64 (k : Int)) := N9.out.cell rfl
                      have z3 : w9.cell? ⟨w.heap.size + 1, 3, none⟩ = some (.int .i64 (sx : Int)) := N9.out.cell rfl
                      refine bodyPost_ret (v := .agg #[.int .i64 q1, .int .u8 4, .int .i64 (k : Int), .int .i64 (sx : Int)]) (by simp [results, Tryz.results59, go_sem, z0, z1, z2, z3]) rfl ?_
                      exact ⟨by rw [F3.out]; rfl, B3.out.low.trans (U9.out.below (Nat.le_succ _) B3.out.low.size)⟩
                  · have hki : ¬ (k : Int) < (g.outs.length : Int) := by omega
                    have FS5 : Hid (findS g = fS5 g) := by show _ = _; rw [FS4.out]; unfold fS4; rw [step_on (fun m b => HAL.out m (by omega))]
                    clear HAL hlt hk FS4
                    go_wp2
                    clear g0 g1 g2 g3 g4
                    go_loopg [15] g.actors.length (fun gk v wr => ∃ k : Nat, k ≤ g.actors.length ∧ gk = g.actors.length - k ∧ v = .int .i64 (k : Int) ∧ FBox w #[.string (str g.name), .slice a1 g.actors.length c1, .slice a2 g.edges.length c2, .slice a3 g.ins.length c3, .slice a4 g.outs.length c4] wr ∧ ∀ j : Nat, j < k → ((openC g) j).1 = 0)
                    case atStart => exact ⟨0, Nat.zero_le _, rfl, rfl, HB.out, fun j hj => absurd hj (Nat.not_lt_zero _)⟩
                    case round =>
                      clear HB hki
                      obtain ⟨k, hk, rfl, rfl, hB, hall⟩ := hrel
                      have HB := hiddenG hB
                      have HAL := hiddenG hall
                      have g0 : wr.cell? ⟨w.heap.size, 0, none⟩ = some (.string (str g.name)) := hB.1.1.cell rfl
                      have g1 : wr.cell? ⟨w.heap.size, 1, none⟩ = some (.slice a1 g.actors.length c1) := hB.1.1.cell rfl
                      have g2 : wr.cell? ⟨w.heap.size, 2, none⟩ = some (.slice a2 g.edges.length c2) := hB.1.1.cell rfl
                      have g3 : wr.cell? ⟨w.heap.size, 3, none⟩ = some (.slice a3 g.ins.length c3) := hB.1.1.cell rfl
                      have g4 : wr.cell? ⟨w.heap.size, 4, none⟩ = some (.slice a4 g.outs.length c4) := hB.1.1.cell rfl
                      clear hB hall
                      by_cases hlt : k < g.actors.length
                      · have hki : (k : Int) < (g.actors.length : Int) := by omega
                        have HNO : Hid (((openC g) k).1 = 0 → ∀ j : Nat, j < k + 1 → ((openC g) j).1 = 0) := fun e j hj => by
                          by_cases q : j < k
                          · exact HAL.out j q
                          · rw [show j = k by omega]; exact e
                        have CK := hiddenG (Copen.out wr k HB.out.low hlt)
                        have HYES : Hid (openB g k = true → findS g = ⟨87, 1, k, 0⟩) := fun e1 => by
                          have e2 : openC g k = (87, 0) := by unfold openC; rw [e1]; rfl
                          have e : (openC g k).1 ≠ 0 := by rw [e2]; decide
                          rw [FS5.out]; unfold fS5; rw [loop_stop _ 0 k (Nat.zero_le _) (by omega) e (fun m _ b => HAL.out m b), e2]
                        have HN2 : Hid (openB g k = false → ∀ j : Nat, j < k + 1 → (openC g j).1 = 0) := fun e1 => HNO.out (by unfold openC; rw [e1]; rfl)
                        clear HNO
                        obtain ⟨q1, hq1⟩ : ∃ q, openB g k = q := ⟨_, rfl⟩
                        rw [hq1] at HYES HN2 CK
                        clear hq1
                        cases q1
                        · go_wp2_with (go_at_call 105; (with_reducible refine CK.out.mono ?_); rintro e w3 ⟨rfl, b3⟩; have B3 := hiddenG (HB.out.later b3); clear b3)
                          go_roundg (g.actors.length - (k + 1))
                          case measure => omega
                          case rel => exact ⟨k + 1, by omega, rfl, by go_num, B3.out, HN2.out (by trivial)⟩
                        · have F3 : Hid (findS g = ⟨87, 1, k, 0⟩) := HYES.out rfl
                          go_wp2_with (first
                            | (refine wpList_storeW _ rfl 114 (.tmp 2) (.tmp 115) rfl rfl (w.heap.size + 1) 114 _ _ rfl rfl B3.out.2 sizX rfl rfl ?_; intro w9 hN hU; have N9 := hiddenG hN; have U9 := hiddenG hU; clear hN hU)
                            | (go_at_call 105; (with_reducible refine CK.out.mono ?_); rintro e w3 ⟨rfl, b3⟩; have B3 := hiddenG (HB.out.later b3); clear b3))
                          have z0 : w9.cell? ⟨w.heap.size + 1, 0, none⟩ = some (.int .i64 87) := N9.out.cell rfl
                          have z1 : w9.cell? ⟨w.heap.size + 1, 1, none⟩ = some (.int .u8 1) := N9.out.cell rfl
                          have z2 : w9.cell? ⟨w.heap.size + 1, 2, none⟩ = some (.int .i64 (k : Int)) := N9.out.cell rfl
                          have z3 : w9.cell? ⟨w.heap.size + 1, 3, none⟩ = some (.int .i64 0) := N9.out.cell rfl
                          refine bodyPost_ret (v := .agg #[.int .i64 87, .int .u8 1, .int .i64 (k : Int), .int .i64 0]) (by simp [results, Tryz.results59, go_sem, z0, z1, z2, z3]) rfl ?_
                          exact ⟨by rw [F3.out]; rfl, B3.out.low.trans (U9.out.below (Nat.le_succ _) B3.out.low.size)⟩
                      · have hki : ¬ (k : Int) < (g.actors.length : Int) := by omega
                        have F9 : Hid (findS g = fl0) := by show _ = _; rw [FS5.out]; unfold fS5; rw [zero_loop' _ 0 (fun m _ b => HAL.out m (by omega))]
                        go_wp2_with (first
                          | (refine wpList_storeW _ rfl 114 (.tmp 2) (.tmp 116) rfl rfl (w.heap.size + 1) 114 _ _ rfl rfl HB.out.2 sizX rfl rfl ?_; intro w9 hN hU; have N9 := hiddenG hN; have U9 := hiddenG hU; clear hN hU))
                        have z0 : w9.cell? ⟨w.heap.size + 1, 0, none⟩ = some (.int .i64 0) := N9.out.cell rfl
                        have z1 : w9.cell? ⟨w.heap.size + 1, 1, none⟩ = some (.int .u8 0) := N9.out.cell rfl
                        have z2 : w9.cell? ⟨w.heap.size + 1, 2, none⟩ = some (.int .i64 0) := N9.out.cell rfl
                        have z3 : w9.cell? ⟨w.heap.size + 1, 3, none⟩ = some (.int .i64 0) := N9.out.cell rfl
                        refine bodyPost_ret (v := .agg #[.int .i64 0, .int .u8 0, .int .i64 0, .int .i64 0]) (by simp [results, Tryz.results59, go_sem, z0, z1, z2, z3]) rfl ?_
                        exact ⟨by rw [F9.out]; rfl, HB.out.low.trans (U9.out.below (Nat.le_succ _) HB.out.low.size)⟩
  · have hm2 : (mc != 0) = true := by simpa using hm
    have F2 : Hid (findS g = ⟨mc, mk, mn, ms⟩) := FY.out hm
    clear FO FY
    go_wp2_with (first
      | (refine wpList_storeW _ rfl 114 (.tmp 2) (.tmp 31) rfl rfl (w.heap.size + 1) 114 _ _ rfl rfl B2.out.2 sizX rfl rfl ?_; intro w9 hN hU; have N9 := hiddenG hN; have U9 := hiddenG hU; clear hN hU))
    have z0 : w9.cell? ⟨w.heap.size + 1, 0, none⟩ = some (.int .i64 mc) := N9.out.cell rfl
    have z1 : w9.cell? ⟨w.heap.size + 1, 1, none⟩ = some (.int .u8 (mk : Int)) := N9.out.cell rfl
    have z2 : w9.cell? ⟨w.heap.size + 1, 2, none⟩ = some (.int .i64 (mn : Int)) := N9.out.cell rfl
    have z3 : w9.cell? ⟨w.heap.size + 1, 3, none⟩ = some (.int .i64 (ms : Int)) := N9.out.cell rfl
    refine bodyPost_ret (v := .agg #[.int .i64 mc, .int .u8 (mk : Int), .int .i64 (mn : Int), .int .i64 (ms : Int)]) (by simp [results, Tryz.results59, go_sem, z0, z1, z2, z3]) rfl ?_
    exact ⟨by rw [F2.out]; rfl, B2.out.low.trans (U9.out.below (Nat.le_succ _) B2.out.low.size)⟩
/-- Numbers as new memory. -/
def NuV (V : World) (zs : List Int) (u : World) (v : Value) : Prop := ∃ a c, v = .slice a zs.length c ∧ CapR V.heap.size u a c zs
theorem NuV.later {V u u' : World} {zs : List Int} {v : Value} (h : NuV V zs u v) (hb : Below u.heap.size u u') : NuV V zs u' v := by
  obtain ⟨a, c, h1, h2⟩ := h
  exact ⟨a, c, h1, h2.later hb⟩
def NewD (B : Nat) (T : TypeId) (cs : Array Value) (u : World) (v : Value) : Prop := ∃ xb, v = .pointer (some ⟨xb, 0, none⟩) ∧ B ≤ xb ∧ BlkA T xb u cs
theorem NewD.later {B : Nat} {T : TypeId} {cs : Array Value} {u u' : World} {v : Value} (h : NewD B T cs u v) (hb : Below u.heap.size u u') : NewD B T cs u' v := by
  obtain ⟨xb, h1, h2, h3⟩ := h
  exact ⟨xb, h1, h2, h3.below hb⟩
/-- A struct that holds new numbers; the same in a new block. -/
def AggX (V : World) (mk : Value → Value) (qn : Nat) (nu : List Int) (u : World) (v : Value) : Prop := ∃ za zc, v = mk (.slice za qn zc) ∧ CapR V.heap.size u za zc nu
def NewX (V : World) (P : Value → List Value) (qn : Nat) (nu : List Int) (u : World) (v : Value) : Prop := ∃ h za zc, v = .slice (some ⟨h, 0, none⟩) 1 1 ∧ (∀ j y, (P (.slice za qn zc))[j]? = some y → u.cell? ((⟨h, 0, none⟩ : Addr).add j) = some y) ∧ CapR V.heap.size u za zc nu
theorem AggX.later {V u u' : World} {mk : Value → Value} {qn : Nat} {nu : List Int} {v : Value} (h : AggX V mk qn nu u v) (hb : Below u.heap.size u u') : AggX V mk qn nu u' v := by
  obtain ⟨za, zc, h1, h2⟩ := h
  exact ⟨za, zc, h1, h2.later hb⟩
theorem NewX.later {V u u' : World} {P : Value → List Value} {qn : Nat} {nu : List Int} {v : Value} (h : NewX V P qn nu u v) (hb : Below u.heap.size u u') : NewX V P qn nu u' v := by
  obtain ⟨g, za, zc, h1, h2, h3⟩ := h
  exact ⟨g, za, zc, h1, fun j y hy => cell_keep hb (h2 j y hy), h3.later hb⟩
theorem newX_new {V u : World} {P : Value → List Value} {qn : Nat} {nu : List Int} (T : TypeId) {za : Option Addr} {zc : Nat} (h : CapR V.heap.size u za zc nu) : NewX V P qn nu (u.alloc (.cells (P (.slice za qn zc)).toArray T)) (.slice (some ⟨u.heap.size, 0, none⟩) 1 1) :=
  ⟨u.heap.size, za, zc, rfl, cells_new u T _, h.later ((Below.refl _ _).alloc (Nat.le_refl _) _)⟩
def mkAX (xn : List UInt8) (tg : Nat) (q : Value) : Value := .agg #[.string (str xn), .int .u8 (tg : Int), q]
def mkEX (a b c d : Int) (q : Value) : Value := .agg #[.int .i64 a, .int .i64 b, .int .i64 c, .int .i64 d, q]
/-- How the document's Of ends. -/
def OfE (w : World) (nm : List UInt8) (K : List Itm) (e : Ending) (w' : World) : Prop :=
  ∃ v1 v2 v3 v4 As Es Ps Os, e = .returned (.agg #[.string (str nm), v1, v2, v3, v4]) ∧ w'.ownsRow w.heap.size 62 3 v1 As.length (As.flatMap aP) ∧ w'.ownsRow w.heap.size 65 5 v2 Es.length (Es.flatMap eP) ∧ w'.ownsRow w.heap.size 81 3 v3 Ps.length (Ps.flatMap pP) ∧ w'.ownsRow w.heap.size 81 3 v4 Os.length (Os.flatMap pP) ∧ OfL (actN K) K As Es Ps Os ∧ (∀ p ∈ As, ParO w.heap.size w' p) ∧ (∀ p ∈ Es, ParQ w.heap.size w' p) ∧ Below w.heap.size w w'
set_option maxRecDepth 100000 in
set_option maxHeartbeats 16000000 in
theorem of8_any (nm : List UInt8) (a : Option Addr) (n c : Nat) (L : List (Itm × Value)) (w : World) (hn : L.length = n) (h : ItR w a L) (hO : ItO w L) (hl : n ≤ 2000000) (hk : ∀ p ∈ L, 1 ≤ p.1.kind ∧ p.1.kind ≤ 4) :
    Calls Tryz.prog 58 #[.agg #[.string (str nm), .slice a n c]] w (OfE w nm (L.map Prod.fst)) := by
  have ba := (((Below.refl w.heap.size w).alloc (Nat.le_refl _) (.cells #[.string (str nm), .slice a n c] 52)).alloc (by simp) (.cells #[.string ⟨#[]⟩, .slice none 0 0, .slice none 0 0, .slice none 0 0, .slice none 0 0] 26)).alloc (by simp; omega) (.cells #[.string (str nm), .slice none 0 0, .slice none 0 0, .slice none 0 0, .slice none 0 0] 26)
  have sb := ((blkA_new 52 w #[.string (str nm), .slice a n c]).below ((Below.refl _ _).alloc (Nat.le_refl _) (.cells #[.string ⟨#[]⟩, .slice none 0 0, .slice none 0 0, .slice none 0 0, .slice none 0 0] 26))).below ((Below.refl _ _).alloc (Nat.le_refl _) (.cells #[.string (str nm), .slice none 0 0, .slice none 0 0, .slice none 0 0, .slice none 0 0] 26))
  have rb : BlkA 26 (w.heap.size + 1) (((w.alloc (.cells #[.string (str nm), .slice a n c] 52)).alloc (.cells #[.string ⟨#[]⟩, .slice none 0 0, .slice none 0 0, .slice none 0 0, .slice none 0 0] 26)).alloc (.cells #[.string (str nm), .slice none 0 0, .slice none 0 0, .slice none 0 0, .slice none 0 0] 26)) #[.string ⟨#[]⟩, .slice none 0 0, .slice none 0 0, .slice none 0 0, .slice none 0 0] := by
    have h3 := (blkA_new 26 (w.alloc (.cells #[.string (str nm), .slice a n c] 52)) #[.string ⟨#[]⟩, .slice none 0 0, .slice none 0 0, .slice none 0 0, .slice none 0 0]).below ((Below.refl _ _).alloc (Nat.le_refl _) (.cells #[.string (str nm), .slice none 0 0, .slice none 0 0, .slice none 0 0, .slice none 0 0] 26))
    rw [World.size_alloc] at h3
    exact h3
  have gb : BlkA 26 (w.heap.size + 2) (((w.alloc (.cells #[.string (str nm), .slice a n c] 52)).alloc (.cells #[.string ⟨#[]⟩, .slice none 0 0, .slice none 0 0, .slice none 0 0, .slice none 0 0] 26)).alloc (.cells #[.string (str nm), .slice none 0 0, .slice none 0 0, .slice none 0 0, .slice none 0 0] 26)) #[.string (str nm), .slice none 0 0, .slice none 0 0, .slice none 0 0, .slice none 0 0] := by
    have h3 := blkA_new 26 ((w.alloc (.cells #[.string (str nm), .slice a n c] 52)).alloc (.cells #[.string ⟨#[]⟩, .slice none 0 0, .slice none 0 0, .slice none 0 0, .slice none 0 0] 26)) #[.string (str nm), .slice none 0 0, .slice none 0 0, .slice none 0 0, .slice none 0 0]
    rw [World.size_alloc, World.size_alloc] at h3
    exact h3
  have WH : Hid (∀ U, Below w.heap.size w U → ∀ l : List UInt8, Calls Tryz.prog 99 #[.agg #[.string (str nm), .slice a n c], .string (str l)] U fun e w' => e = .returned (.int .i64 (whL (actN (L.map Prod.fst)) l)) ∧ Below U.heap.size U w') := fun U hU l => which8_any nm a n c L l U hn (h.below hU) hl
  have D0 : Hid (OfS w (((w.alloc (.cells #[.string (str nm), .slice a n c] 52)).alloc (.cells #[.string ⟨#[]⟩, .slice none 0 0, .slice none 0 0, .slice none 0 0, .slice none 0 0] 26)).alloc (.cells #[.string (str nm), .slice none 0 0, .slice none 0 0, .slice none 0 0, .slice none 0 0] 26)).heap.size #[.string (str nm), .slice a n c] nm (.slice none 0 0) (.slice none 0 0) (.slice none 0 0) (.slice none 0 0) [] [] [] [] (((w.alloc (.cells #[.string (str nm), .slice a n c] 52)).alloc (.cells #[.string ⟨#[]⟩, .slice none 0 0, .slice none 0 0, .slice none 0 0, .slice none 0 0] 26)).alloc (.cells #[.string (str nm), .slice none 0 0, .slice none 0 0, .slice none 0 0, .slice none 0 0] 26))) := ⟨sb, rb, gb, World.ownsRow_nil _ _ _ _, World.ownsRow_nil _ _ _ _, World.ownsRow_nil _ _ _ _, World.ownsRow_nil _ _ _ _, NB.nilL _, fun p hp => (by cases hp), fun p hp => (by cases hp), ba, gb.lt, Nat.le_refl _⟩
  have HR := hiddenG h
  have HO := hiddenG hO
  have HL := hiddenG hn
  have HK := hiddenG hk
  have hnI : (n : Int) ≤ 2000000 := by omega
  obtain ⟨iA, hiA, hzA0, hzA1, hzA2⟩ := info_parts Tryz.infoA
  have JA := hiddenG hiA
  have JA0 := hiddenG hzA0
  have JA1 := hiddenG hzA1
  have JA2 := hiddenG hzA2
  obtain ⟨iE, hiE, hzE0, hzE1, hzE2⟩ := info_parts Tryz.infoE
  have JE := hiddenG hiE
  have JE0 := hiddenG hzE0
  have JE1 := hiddenG hzE1
  have JE2 := hiddenG hzE2
  obtain ⟨iP, hiP, hzP0, hzP1, hzP2⟩ := info_parts Tryz.infoP
  have JP := hiddenG hiP
  have JP0 := hiddenG hzP0
  have JP1 := hiddenG hzP1
  have JP2 := hiddenG hzP2
  have y0 := sb.cell (k := 0) rfl
  clear ba sb rb gb h hO hn hk hiA hzA0 hzA1 hzA2 hiE hzE0 hzE1 hzE2 hiP hzP0 hzP1 hzP2
  go_enter Tryz.func58, Tryz.ntmps58
  go_upto_region 2 with fail
  generalize ((w.alloc (.cells #[.string (str nm), .slice a n c] 52)).alloc (.cells #[.string ⟨#[]⟩, .slice none 0 0, .slice none 0 0, .slice none 0 0, .slice none 0 0] 26)).alloc (.cells #[.string (str nm), .slice none 0 0, .slice none 0 0, .slice none 0 0, .slice none 0 0] 26) = W1 at *
  generalize hns : actN (L.map Prod.fst) = ns at *
  have HNS := hiddenG hns
  obtain ⟨B, hBe⟩ : ∃ B, W1.heap.size = B := ⟨_, rfl⟩
  rw [hBe] at D0
  clear hns hBe y0
  go_wp2
  go_loopg [4] n (fun gk v wr => ∃ (k : Nat) (v1 v2 v3 v4 : Value) (As : List (GA × Value)) (Es : List (GE × Value)) (Ps Os : List GP), k ≤ n ∧ gk = n - k ∧ v = .int .i64 (k : Int) ∧ OfS w B #[.string (str nm), .slice a n c] nm v1 v2 v3 v4 As Es Ps Os wr ∧ OfL ns ((L.map Prod.fst).take k) As Es Ps Os)
  case atStart => exact ⟨0, _, _, _, _, [], [], [], [], Nat.zero_le _, rfl, rfl, D0.out, ofl_nil _⟩
  case round =>
    clear D0
    obtain ⟨k, v1, v2, v3, v4, As, Es, Ps, Os, hk, rfl, rfl, hD, hLl⟩ := hrel
    obtain ⟨x1, d1, rfl⟩ := own_slice hD.r1
    obtain ⟨x2, d2, rfl⟩ := own_slice hD.r2
    obtain ⟨x3, d3, rfl⟩ := own_slice hD.r3
    obtain ⟨x4, d4, rfl⟩ := own_slice hD.r4
    have DD := hiddenG hD
    have LL := hiddenG hLl
    have LN : As.length ≤ 2000000 ∧ Es.length ≤ 97 ∧ Ps.length ≤ 17 ∧ Os.length ≤ 17 := by
      have q := hLl.len
      rw [List.length_take, List.length_map] at q
      omega
    have y1 : wr.cell? ⟨w.heap.size, 1, none⟩ = some (.slice a n c) := hD.sb.cell rfl
    clear hD hLl
    by_cases hlt : k < n
    · have hki : (k : Int) < (n : Int) := by omega
      have hr := HR.out.below DD.out.bel
      have hkl : k < L.length := by have := HL.out; omega
      rcases hr.lie with e | ⟨g, off, rfl, hc⟩
      · rw [e] at hkl; exact absurd hkl (Nat.not_lt_zero _)
      obtain ⟨c0, c1, c2, c3, c4, c5, c6, c7, c8, c9, c10⟩ := hc k hkl
      have hmem := nthI_mem (L := L) hkl
      obtain ⟨qa, qc, hq, hqa⟩ := HO.out.args _ hmem
      rw [hq] at c3
      have HQA := hiddenG hqa
      have hkk := HK.out _ hmem
      have TK := hiddenG (take_mapI hkl)
      generalize (nthI L k).1 = x at *
      obtain ⟨ki, xn, xt, nu, ⟨fn, fp, fa⟩, ⟨tn, tp, ta⟩, pl⟩ := x
      obtain ⟨qn, hqn⟩ : ∃ q, nu.length = q := ⟨_, rfl⟩
      have HQN := hiddenG hqn
      simp only at c0 c1 c2 c3 c4 c5 c6 c7 c8 c9 c10 HQA hkk
      rw [hqn] at c3 HQA
      clear hc hr hq hqa hmem hqn
      have NOK : Hid (NumsOk nu) := ⟨HQA.out.fits, by rw [HQN.out]; exact HQA.out.reach⟩
      have IN : Hid (∀ U, Below w.heap.size w U → Calls Tryz.prog 71 #[.slice qa qn qc] U (CopiedC U qn nu)) := fun U hU => ints_own qa nu qn qc U (HQA.out.below hU)
      have bv := (Below.refl wr.heap.size wr).alloc (Nat.le_refl _) (.cells #[.int .u8 ki, .string (str xn), .string (str xt), .slice qa qn qc, .string (str fn), .int .i64 fp, .int .i64 fa, .string (str tn), .int .i64 tp, .int .i64 ta, .int .i64 pl] 103)
      have DV := hiddenG (DD.out.below bv)
      have BV := hiddenG (DD.out.bel.trans (bv.mono DD.out.bel.size))
      have bx := blkA_new 103 wr #[.int .u8 ki, .string (str xn), .string (str xt), .slice qa qn qc, .string (str fn), .int .i64 fp, .int .i64 fa, .string (str tn), .int .i64 tp, .int .i64 ta, .int .i64 pl]
      have bb0 := bx.cell (k := 0) rfl
      have bb1 := bx.cell (k := 1) rfl
      have bb2 := bx.cell (k := 2) rfl
      have bb3 := bx.cell (k := 3) rfl
      have bb4 := bx.cell (k := 4) rfl
      have bb5 := bx.cell (k := 5) rfl
      have bb6 := bx.cell (k := 6) rfl
      have bb7 := bx.cell (k := 7) rfl
      have bb8 := bx.cell (k := 8) rfl
      have bb9 := bx.cell (k := 9) rfl
      have bb10 := bx.cell (k := 10) rfl
      have BX := hiddenG bx
      have gg1 : (wr.alloc (.cells #[.int .u8 ki, .string (str xn), .string (str xt), .slice qa qn qc, .string (str fn), .int .i64 fp, .int .i64 fa, .string (str tn), .int .i64 tp, .int .i64 ta, .int .i64 pl] 103)).cell? ⟨w.heap.size + 2, 1, none⟩ = some (.slice x1 As.length d1) := DV.out.gb.cell rfl
      have gg2 : (wr.alloc (.cells #[.int .u8 ki, .string (str xn), .string (str xt), .slice qa qn qc, .string (str fn), .int .i64 fp, .int .i64 fa, .string (str tn), .int .i64 tp, .int .i64 ta, .int .i64 pl] 103)).cell? ⟨w.heap.size + 2, 2, none⟩ = some (.slice x2 Es.length d2) := DV.out.gb.cell rfl
      have gg3 : (wr.alloc (.cells #[.int .u8 ki, .string (str xn), .string (str xt), .slice qa qn qc, .string (str fn), .int .i64 fp, .int .i64 fa, .string (str tn), .int .i64 tp, .int .i64 ta, .int .i64 pl] 103)).cell? ⟨w.heap.size + 2, 3, none⟩ = some (.slice x3 Ps.length d3) := DV.out.gb.cell rfl
      have gg4 : (wr.alloc (.cells #[.int .u8 ki, .string (str xn), .string (str xt), .slice qa qn qc, .string (str fn), .int .i64 fp, .int .i64 fa, .string (str tn), .int .i64 tp, .int .i64 ta, .int .i64 pl] 103)).cell? ⟨w.heap.size + 2, 4, none⟩ = some (.slice x4 Os.length d4) := DV.out.gb.cell rfl
      have ss0 : (wr.alloc (.cells #[.int .u8 ki, .string (str xn), .string (str xt), .slice qa qn qc, .string (str fn), .int .i64 fp, .int .i64 fa, .string (str tn), .int .i64 tp, .int .i64 ta, .int .i64 pl] 103)).cell? ⟨w.heap.size, 0, none⟩ = some (.string (str nm)) := DV.out.sb.cell rfl
      have ss1 : (wr.alloc (.cells #[.int .u8 ki, .string (str xn), .string (str xt), .slice qa qn qc, .string (str fn), .int .i64 fp, .int .i64 fa, .string (str tn), .int .i64 tp, .int .i64 ta, .int .i64 pl] 103)).cell? ⟨w.heap.size, 1, none⟩ = some (.slice (some ⟨g, off, none⟩) n c) := DV.out.sb.cell rfl
      clear bv bx
      have hcase : ki = 1 ∨ ki = 2 ∨ ki = 3 ∨ ki = 4 := by omega
      clear hkk
      rcases hcase with rfl | rfl | rfl | rfl
      · have TG : Hid (∀ U, Calls Tryz.prog 98 #[.string (str xt)] U fun e w' => e = .returned (.tuple #[.int .u8 ((tagS xt).1 : Int), .int .i64 (tagS xt).2]) ∧ Below U.heap.size U w') := fun U => rtag_any xt U
        have HTL := hiddenG (tagS_le xt)
        have HLU : Hid (luA ⟨1, xn, xt, nu, ⟨fn, fp, fa⟩, ⟨tn, tp, ta⟩, pl⟩ = ⟨xn, (tagS xt).1, nu⟩) := by rfl
        generalize (tagS xt).2 = te at *
        generalize (tagS xt).1 = tg at *
        go_upto_region 8 with fail
        generalize wr.alloc (.cells #[.int .u8 1, .string (str xn), .string (str xt), .slice qa qn qc, .string (str fn), .int .i64 fp, .int .i64 fa, .string (str tn), .int .i64 tp, .int .i64 ta, .int .i64 pl] 103) = W5 at *
        clear c0 c1 c2 c3 c4 c5 c6 c7 c8 c9 c10 y1
        go_upto_region 9 with (go_at_call 98; (with_reducible refine (TG.out _).mono ?_); rintro e V ⟨rfl, b5⟩; have z1 := cell_keep b5 bb1; have z3 := cell_keep b5 bb3; have zg := cell_keep b5 gg1; have DV' := hiddenG (DV.out.below b5); have BV' := hiddenG (BV.out.trans (b5.mono BV.out.size)); clear b5)
        clear bb0 bb1 bb2 bb3 bb4 bb5 bb6 bb7 bb8 bb9 bb10 gg1 gg2 gg3 gg4 ss0 ss1 DV BV BX
        have DV := DV'
        have BV := BV'
        clear DV' BV'
        refine wp_region_said 10 (fun i u v => match i with
            | 0 => v = .pointer (some ⟨w.heap.size + 2, 1, none⟩)
            | 1 => v = .slice x1 As.length d1
            | 2 => v = .pointer (some ⟨wr.heap.size, 1, none⟩)
            | 3 => v = .string (str xn)
            | 4 => v = .int .u8 (tg : Int)
            | 5 => v = .pointer (some ⟨wr.heap.size, 3, none⟩)
            | 6 => v = .slice qa qn qc
            | 7 => AggX V id qn nu u v
            | 8 => AggX V (mkAX xn tg) qn nu u v
            | 9 => NewX V (fun q => aP (⟨xn, tg, nu⟩, q)) qn nu u v
            | _ => True) (by kernel_rfl) (by kernel_rfl) (by kernel_rfl) (by kernel_rfl) ?_ ?_ ?_
        · intro i w v w' h hb
          match i, h with
          | 0, h => exact h
          | 1, h => exact h
          | 2, h => exact h
          | 3, h => exact h
          | 4, h => exact h
          | 5, h => exact h
          | 6, h => exact h
          | 7, h => exact h.later hb
          | 8, h => exact h.later hb
          | 9, h => exact h.later hb
          | _ + 10, _ => trivial
        · intro i o ρ w' hi ho hb hc hf hfr hdep
          have b1 := cell_keep hb z1
          have b3 := cell_keep hb z3
          have g1 := cell_keep hb zg
          match i, hi with
          | 0, _ =>
            simp only [gTA, gCZ, gSI] at ho
            subst ho
            have ts : ρ (.tmp 3) = .pointer (some ⟨w.heap.size + 2, 0, none⟩) := hfr 3 (by kernel_rfl)
            simp [go_sem, ts]
            exact ⟨Below.refl _ _, rfl⟩
          | 1, _ =>
            simp only [gTA, gCZ, gCS, gSI] at ho
            subst ho
            have ts : ρ (.tmp 33) = .pointer (some ⟨w.heap.size + 2, 1, none⟩) := hdep 0 33 (by kernel_rfl) (by kernel_rfl)
            simp [go_sem, ts, g1]
            exact ⟨Below.refl _ _, rfl⟩
          | 2, _ =>
            simp only [gTA, gCZ, gCS, gSI] at ho
            subst ho
            have ts : ρ (.tmp 5) = .pointer (some ⟨wr.heap.size, 0, none⟩) := hfr 5 (by kernel_rfl)
            simp [go_sem, ts]
            exact ⟨Below.refl _ _, rfl⟩
          | 3, _ =>
            simp only [gTA, gCZ, gCS, gSI] at ho
            subst ho
            have ts : ρ (.tmp 35) = .pointer (some ⟨wr.heap.size, 1, none⟩) := hdep 2 35 (by kernel_rfl) (by kernel_rfl)
            simp [go_sem, ts, b1]
            exact ⟨Below.refl _ _, rfl⟩
          | 4, _ =>
            simp only [gTA, gCZ, gCS, gSI] at ho
            subst ho
            have ts : ρ (.tmp 6) = .int .u8 (tg : Int) := hfr 6 (by kernel_rfl)
            simp [go_sem, ts]
            exact ⟨Below.refl _ _, rfl⟩
          | 5, _ =>
            simp only [gTA, gCZ, gCS, gSI] at ho
            subst ho
            have ts : ρ (.tmp 5) = .pointer (some ⟨wr.heap.size, 0, none⟩) := hfr 5 (by kernel_rfl)
            simp [go_sem, ts]
            exact ⟨Below.refl _ _, rfl⟩
          | 6, _ =>
            simp only [gTA, gCZ, gCS, gSI] at ho
            subst ho
            have ts : ρ (.tmp 38) = .pointer (some ⟨wr.heap.size, 3, none⟩) := hdep 5 38 (by kernel_rfl) (by kernel_rfl)
            simp [go_sem, ts, b3]
            exact ⟨Below.refl _ _, rfl⟩
          | 7, _ =>
            simp only [gTA, gCZ, gCS, gSI] at ho
            subst ho
            have t0 : ρ (.tmp 39) = .slice qa qn qc := hdep 6 39 (by kernel_rfl) (by kernel_rfl)
            simp [go_sem, t0, hf]
            exact ⟨rfl, (IN.out w' (BV.out.trans (hb.mono BV.out.size))).mono fun e w'' hh => by obtain ⟨za, zc, h1, h2, h3⟩ := hh; exact ⟨_, h1, h3, za, zc, rfl, h2.mono hb.size⟩⟩
          | 8, _ =>
            simp only [gTA, gCZ, gCS, gSI] at ho
            subst ho
            have t0 : ρ (.tmp 36) = .string (str xn) := hdep 3 36 (by kernel_rfl) (by kernel_rfl)
            have t1 : ρ (.tmp 37) = .int .u8 (tg : Int) := hdep 4 37 (by kernel_rfl) (by kernel_rfl)
            obtain ⟨za, zc, t2, hz⟩ : AggX V id qn nu w' (ρ (.tmp 40)) := hdep 7 40 (by kernel_rfl) (by kernel_rfl)
            simp only [id] at t2
            simp [go_sem, t0, t1, t2]
            exact ⟨Below.refl _ _, za, zc, rfl, hz⟩
          | 9, _ =>
            simp only [gTA, gCZ, gCS, gSI] at ho
            subst ho
            obtain ⟨za, zc, t2, hz⟩ : AggX V (mkAX xn tg) qn nu w' (ρ (.tmp 41)) := hdep 8 41 (by kernel_rfl) (by kernel_rfl)
            unfold mkAX at t2
            simp [go_sem, t2]
            exact ⟨(Below.refl _ _).alloc (Nat.le_refl _) _, newX_new (P := fun q => aP (⟨xn, tg, nu⟩, q)) 62 hz⟩
        · intro V9 w9 q9 hS
          have e0 : V9 0 = .pointer (some ⟨w.heap.size + 2, 1, none⟩) := hS 0 (by decide)
          have e1 : V9 1 = .slice x1 As.length d1 := hS 1 (by decide)
          have e2 : V9 2 = .pointer (some ⟨wr.heap.size, 1, none⟩) := hS 2 (by decide)
          have e3 : V9 3 = .string (str xn) := hS 3 (by decide)
          have e4 : V9 4 = .int .u8 (tg : Int) := hS 4 (by decide)
          have e5 : V9 5 = .pointer (some ⟨wr.heap.size, 3, none⟩) := hS 5 (by decide)
          have e6 : V9 6 = .slice qa qn qc := hS 6 (by decide)
          obtain ⟨za7, zc7, e7, -⟩ : AggX V id qn nu w9 (V9 7) := hS 7 (by decide)
          obtain ⟨za8, zc8, e8, -⟩ : AggX V (mkAX xn tg) qn nu w9 (V9 8) := hS 8 (by decide)
          obtain ⟨hx, za, zc, e9, Q1, Q2⟩ : NewX V (fun q => aP (⟨xn, tg, nu⟩, q)) qn nu w9 (V9 9) := hS 9 (by decide)
          simp only [List.drop_succ_cons, List.drop_zero, List.take_succ_cons, List.take_zero, puts, e0, e1, e2, e3, e4, e5, e6, e7, e8, e9]
          clear hS e0 e1 e2 e3 e4 e5 e6 e7 e8 e9 V9
          simp only [Act.put, List.setIfInBounds_toArray, List.set_cons_zero, List.set_cons_succ]
          have B5 := hiddenG q9
          have QC := hiddenG Q1
          have HP : Hid (ParO B w9 (⟨xn, tg, nu⟩, .slice za qn zc)) := ⟨by show tg ≤ 255; have := HTL.out; omega, NOK.out, by have r := Q2.mono DV.out.big; unfold CapR at r; rw [HQN.out] at r; show w9.ownsRow B 3 1 _ nu.length _; rw [HQN.out]; exact r⟩
          clear q9 Q1 Q2 z1 z3 zg
          go_wp2_with (at_builtin; refine wpList_append_told _ rfl (.tmp 34) (.tmp 42) 22 rfl B 62 iA (.agg #[.string ⟨#[]⟩, .int .u8 0, .slice none 0 0]) 3 48 Tryz.underlying22 JA.out JA0.out JA1.out JA2.out rfl (by decide) (.slice x1 As.length d1) As.length (As.flatMap aP) rfl (owns_below DV.out.r1 B5.out) ⟨hx, 0, none⟩ 1 1 (by decide) (aP (⟨xn, tg, nu⟩, .slice za qn zc)) rfl rfl QC.out (aP_one _ _ _ _) (by unfold maxLen; omega) (by omega) (Nat.le_trans DV.out.big B5.out.size) ?_; intro v' w4 ho ht; obtain ⟨D10, bk⟩ := DV.out.put1 B5.out HP.out ho ht; obtain ⟨va4, vc4, rfl⟩ := told_shape ht; have E10 := hiddenG D10; have s1 : w4.cell? ⟨w.heap.size + 2, 1, none⟩ = some (.slice x1 As.length d1) := bk.cell rfl; have f1 := bk.frozen 1; clear ho ht D10 bk)
          go_roundg (n - (k + 1))
          case measure => omega
          case rel => exact ⟨k + 1, _, _, _, _, As ++ [(⟨xn, tg, nu⟩, .slice za qn zc)], Es, Ps, Os, by omega, rfl, by go_num, E10.out, by rw [TK.out]; exact (by have r := LL.out.addA (x := ⟨1, xn, xt, nu, ⟨fn, fp, fa⟩, ⟨tn, tp, ta⟩, pl⟩) rfl (.slice za qn zc); rw [HLU.out] at r; exact r)⟩
      · by_cases hm : Es.length < 97
        · have hmI : (Es.length : Int) ≤ 96 := by omega
          go_upto_region 12 with fail
          generalize wr.alloc (.cells #[.int .u8 2, .string (str xn), .string (str xt), .slice qa qn qc, .string (str fn), .int .i64 fp, .int .i64 fa, .string (str tn), .int .i64 tp, .int .i64 ta, .int .i64 pl] 103) = V at *
          clear c0 c1 c2 c3 c4 c5 c6 c7 c8 c9 c10 y1
          refine wp_region_said 23 (fun i u v => match i with
              | 0 => v = .pointer (some ⟨w.heap.size + 2, 2, none⟩)
              | 1 => v = .slice x2 Es.length d2
              | 2 => v = .agg #[.string (str nm), .slice (some ⟨g, off, none⟩) n c]
              | 3 => v = .pointer (some ⟨wr.heap.size, 4, none⟩)
              | 4 => v = .pointer (some ⟨wr.heap.size, 4, none⟩)
              | 5 => v = .string (str fn)
              | 6 => v = .int .i64 (whL ns fn)
              | 7 => v = .pointer (some ⟨wr.heap.size, 4, none⟩)
              | 8 => v = .pointer (some ⟨wr.heap.size, 5, none⟩)
              | 9 => v = .int .i64 fp
              | 10 => v = .agg #[.string (str nm), .slice (some ⟨g, off, none⟩) n c]
              | 11 => v = .pointer (some ⟨wr.heap.size, 7, none⟩)
              | 12 => v = .pointer (some ⟨wr.heap.size, 7, none⟩)
              | 13 => v = .string (str tn)
              | 14 => v = .int .i64 (whL ns tn)
              | 15 => v = .pointer (some ⟨wr.heap.size, 7, none⟩)
              | 16 => v = .pointer (some ⟨wr.heap.size, 8, none⟩)
              | 17 => v = .int .i64 tp
              | 18 => v = .pointer (some ⟨wr.heap.size, 3, none⟩)
              | 19 => v = .slice qa qn qc
              | 20 => AggX V id qn nu u v
              | 21 => AggX V (mkEX (whL ns fn) fp (whL ns tn) tp) qn nu u v
              | 22 => NewX V (fun q => eP (⟨whL ns fn, fp, whL ns tn, tp, nu⟩, q)) qn nu u v
              | _ => True) (by kernel_rfl) (by kernel_rfl) (by kernel_rfl) (by kernel_rfl) ?_ ?_ ?_
          · intro i w v w' h hb
            match i, h with
            | 0, h => exact h
            | 1, h => exact h
            | 2, h => exact h
            | 3, h => exact h
            | 4, h => exact h
            | 5, h => exact h
            | 6, h => exact h
            | 7, h => exact h
            | 8, h => exact h
            | 9, h => exact h
            | 10, h => exact h
            | 11, h => exact h
            | 12, h => exact h
            | 13, h => exact h
            | 14, h => exact h
            | 15, h => exact h
            | 16, h => exact h
            | 17, h => exact h
            | 18, h => exact h
            | 19, h => exact h
            | 20, h => exact h.later hb
            | 21, h => exact h.later hb
            | 22, h => exact h.later hb
            | _ + 23, _ => trivial
          · intro i o ρ w' hi ho hb hc hf hfr hdep
            have b4 := cell_keep hb bb4
            have b5 := cell_keep hb bb5
            have b7 := cell_keep hb bb7
            have b8 := cell_keep hb bb8
            have b3 := cell_keep hb bb3
            have g2 := cell_keep hb gg2
            have s0 := cell_keep hb ss0
            have s1 := cell_keep hb ss1
            match i, hi with
            | 0, _ =>
              simp only [gTA, gCZ, gSI] at ho
              subst ho
              have ts : ρ (.tmp 3) = .pointer (some ⟨w.heap.size + 2, 0, none⟩) := hfr 3 (by kernel_rfl)
              simp [go_sem, ts]
              exact ⟨Below.refl _ _, rfl⟩
            | 1, _ =>
              simp only [gTA, gCZ, gCS, gSI] at ho
              subst ho
              have ts : ρ (.tmp 51) = .pointer (some ⟨w.heap.size + 2, 2, none⟩) := hdep 0 51 (by kernel_rfl) (by kernel_rfl)
              simp [go_sem, ts, g2]
              exact ⟨Below.refl _ _, rfl⟩
            | 2, _ =>
              simp only [gTA, gCZ, gCS, gSI] at ho
              subst ho
              have ts : ρ (.tmp 1) = .pointer (some ⟨w.heap.size, 0, none⟩) := hfr 1 (by kernel_rfl)
              simp [go_sem, ts, s0, s1]
              exact ⟨Below.refl _ _, rfl⟩
            | 3, _ =>
              simp only [gTA, gCZ, gCS, gSI] at ho
              subst ho
              have ts : ρ (.tmp 5) = .pointer (some ⟨wr.heap.size, 0, none⟩) := hfr 5 (by kernel_rfl)
              simp [go_sem, ts]
              exact ⟨Below.refl _ _, rfl⟩
            | 4, _ =>
              simp only [gTA, gCZ, gCS, gSI] at ho
              subst ho
              have ts : ρ (.tmp 54) = .pointer (some ⟨wr.heap.size, 4, none⟩) := hdep 3 54 (by kernel_rfl) (by kernel_rfl)
              simp [go_sem, ts]
              exact ⟨Below.refl _ _, rfl⟩
            | 5, _ =>
              simp only [gTA, gCZ, gCS, gSI] at ho
              subst ho
              have ts : ρ (.tmp 55) = .pointer (some ⟨wr.heap.size, 4, none⟩) := hdep 4 55 (by kernel_rfl) (by kernel_rfl)
              simp [go_sem, ts, b4]
              exact ⟨Below.refl _ _, rfl⟩
            | 6, _ =>
              simp only [gTA, gCZ, gCS, gSI] at ho
              subst ho
              have t0 : ρ (.tmp 53) = .agg #[.string (str nm), .slice (some ⟨g, off, none⟩) n c] := hdep 2 53 (by kernel_rfl) (by kernel_rfl)
              have t1 : ρ (.tmp 56) = .string (str fn) := hdep 5 56 (by kernel_rfl) (by kernel_rfl)
              simp [go_sem, t0, t1, hf]
              exact ⟨rfl, (WH.out w' (BV.out.trans (hb.mono BV.out.size)) fn).mono fun e w'' hh => ⟨_, hh.1, hh.2, rfl⟩⟩
            | 7, _ =>
              simp only [gTA, gCZ, gCS, gSI] at ho
              subst ho
              have ts : ρ (.tmp 5) = .pointer (some ⟨wr.heap.size, 0, none⟩) := hfr 5 (by kernel_rfl)
              simp [go_sem, ts]
              exact ⟨Below.refl _ _, rfl⟩
            | 8, _ =>
              simp only [gTA, gCZ, gCS, gSI] at ho
              subst ho
              have ts : ρ (.tmp 58) = .pointer (some ⟨wr.heap.size, 4, none⟩) := hdep 7 58 (by kernel_rfl) (by kernel_rfl)
              simp [go_sem, ts]
              exact ⟨Below.refl _ _, rfl⟩
            | 9, _ =>
              simp only [gTA, gCZ, gCS, gSI] at ho
              subst ho
              have ts : ρ (.tmp 59) = .pointer (some ⟨wr.heap.size, 5, none⟩) := hdep 8 59 (by kernel_rfl) (by kernel_rfl)
              simp [go_sem, ts, b5]
              exact ⟨Below.refl _ _, rfl⟩
            | 10, _ =>
              simp only [gTA, gCZ, gCS, gSI] at ho
              subst ho
              have ts : ρ (.tmp 1) = .pointer (some ⟨w.heap.size, 0, none⟩) := hfr 1 (by kernel_rfl)
              simp [go_sem, ts, s0, s1]
              exact ⟨Below.refl _ _, rfl⟩
            | 11, _ =>
              simp only [gTA, gCZ, gCS, gSI] at ho
              subst ho
              have ts : ρ (.tmp 5) = .pointer (some ⟨wr.heap.size, 0, none⟩) := hfr 5 (by kernel_rfl)
              simp [go_sem, ts]
              exact ⟨Below.refl _ _, rfl⟩
            | 12, _ =>
              simp only [gTA, gCZ, gCS, gSI] at ho
              subst ho
              have ts : ρ (.tmp 62) = .pointer (some ⟨wr.heap.size, 7, none⟩) := hdep 11 62 (by kernel_rfl) (by kernel_rfl)
              simp [go_sem, ts]
              exact ⟨Below.refl _ _, rfl⟩
            | 13, _ =>
              simp only [gTA, gCZ, gCS, gSI] at ho
              subst ho
              have ts : ρ (.tmp 63) = .pointer (some ⟨wr.heap.size, 7, none⟩) := hdep 12 63 (by kernel_rfl) (by kernel_rfl)
              simp [go_sem, ts, b7]
              exact ⟨Below.refl _ _, rfl⟩
            | 14, _ =>
              simp only [gTA, gCZ, gCS, gSI] at ho
              subst ho
              have t0 : ρ (.tmp 61) = .agg #[.string (str nm), .slice (some ⟨g, off, none⟩) n c] := hdep 10 61 (by kernel_rfl) (by kernel_rfl)
              have t1 : ρ (.tmp 64) = .string (str tn) := hdep 13 64 (by kernel_rfl) (by kernel_rfl)
              simp [go_sem, t0, t1, hf]
              exact ⟨rfl, (WH.out w' (BV.out.trans (hb.mono BV.out.size)) tn).mono fun e w'' hh => ⟨_, hh.1, hh.2, rfl⟩⟩
            | 15, _ =>
              simp only [gTA, gCZ, gCS, gSI] at ho
              subst ho
              have ts : ρ (.tmp 5) = .pointer (some ⟨wr.heap.size, 0, none⟩) := hfr 5 (by kernel_rfl)
              simp [go_sem, ts]
              exact ⟨Below.refl _ _, rfl⟩
            | 16, _ =>
              simp only [gTA, gCZ, gCS, gSI] at ho
              subst ho
              have ts : ρ (.tmp 66) = .pointer (some ⟨wr.heap.size, 7, none⟩) := hdep 15 66 (by kernel_rfl) (by kernel_rfl)
              simp [go_sem, ts]
              exact ⟨Below.refl _ _, rfl⟩
            | 17, _ =>
              simp only [gTA, gCZ, gCS, gSI] at ho
              subst ho
              have ts : ρ (.tmp 67) = .pointer (some ⟨wr.heap.size, 8, none⟩) := hdep 16 67 (by kernel_rfl) (by kernel_rfl)
              simp [go_sem, ts, b8]
              exact ⟨Below.refl _ _, rfl⟩
            | 18, _ =>
              simp only [gTA, gCZ, gCS, gSI] at ho
              subst ho
              have ts : ρ (.tmp 5) = .pointer (some ⟨wr.heap.size, 0, none⟩) := hfr 5 (by kernel_rfl)
              simp [go_sem, ts]
              exact ⟨Below.refl _ _, rfl⟩
            | 19, _ =>
              simp only [gTA, gCZ, gCS, gSI] at ho
              subst ho
              have ts : ρ (.tmp 69) = .pointer (some ⟨wr.heap.size, 3, none⟩) := hdep 18 69 (by kernel_rfl) (by kernel_rfl)
              simp [go_sem, ts, b3]
              exact ⟨Below.refl _ _, rfl⟩
            | 20, _ =>
              simp only [gTA, gCZ, gCS, gSI] at ho
              subst ho
              have t0 : ρ (.tmp 70) = .slice qa qn qc := hdep 19 70 (by kernel_rfl) (by kernel_rfl)
              simp [go_sem, t0, hf]
              exact ⟨rfl, (IN.out w' (BV.out.trans (hb.mono BV.out.size))).mono fun e w'' hh => by obtain ⟨za, zc, h1, h2, h3⟩ := hh; exact ⟨_, h1, h3, za, zc, rfl, h2.mono hb.size⟩⟩
            | 21, _ =>
              simp only [gTA, gCZ, gCS, gSI] at ho
              subst ho
              have t0 : ρ (.tmp 57) = .int .i64 (whL ns fn) := hdep 6 57 (by kernel_rfl) (by kernel_rfl)
              have t1 : ρ (.tmp 60) = .int .i64 fp := hdep 9 60 (by kernel_rfl) (by kernel_rfl)
              have t2 : ρ (.tmp 65) = .int .i64 (whL ns tn) := hdep 14 65 (by kernel_rfl) (by kernel_rfl)
              have t3 : ρ (.tmp 68) = .int .i64 tp := hdep 17 68 (by kernel_rfl) (by kernel_rfl)
              obtain ⟨za, zc, t4, hz⟩ : AggX V id qn nu w' (ρ (.tmp 71)) := hdep 20 71 (by kernel_rfl) (by kernel_rfl)
              simp only [id] at t4
              simp [go_sem, t0, t1, t2, t3, t4]
              exact ⟨Below.refl _ _, za, zc, rfl, hz⟩
            | 22, _ =>
              simp only [gTA, gCZ, gCS, gSI] at ho
              subst ho
              obtain ⟨za, zc, t2, hz⟩ : AggX V (mkEX (whL ns fn) fp (whL ns tn) tp) qn nu w' (ρ (.tmp 72)) := hdep 21 72 (by kernel_rfl) (by kernel_rfl)
              unfold mkEX at t2
              simp [go_sem, t2]
              exact ⟨(Below.refl _ _).alloc (Nat.le_refl _) _, newX_new (P := fun q => eP (⟨whL ns fn, fp, whL ns tn, tp, nu⟩, q)) 65 hz⟩
            | k + 23, h => exact absurd h (by omega)
          · intro V9 w9 q9 hS
            have e0 : V9 0 = .pointer (some ⟨w.heap.size + 2, 2, none⟩) := hS 0 (by decide)
            have e1 : V9 1 = .slice x2 Es.length d2 := hS 1 (by decide)
            have e2 : V9 2 = .agg #[.string (str nm), .slice (some ⟨g, off, none⟩) n c] := hS 2 (by decide)
            have e3 : V9 3 = .pointer (some ⟨wr.heap.size, 4, none⟩) := hS 3 (by decide)
            have e4 : V9 4 = .pointer (some ⟨wr.heap.size, 4, none⟩) := hS 4 (by decide)
            have e5 : V9 5 = .string (str fn) := hS 5 (by decide)
            have e6 : V9 6 = .int .i64 (whL ns fn) := hS 6 (by decide)
            have e7 : V9 7 = .pointer (some ⟨wr.heap.size, 4, none⟩) := hS 7 (by decide)
            have e8 : V9 8 = .pointer (some ⟨wr.heap.size, 5, none⟩) := hS 8 (by decide)
            have e9 : V9 9 = .int .i64 fp := hS 9 (by decide)
            have e10 : V9 10 = .agg #[.string (str nm), .slice (some ⟨g, off, none⟩) n c] := hS 10 (by decide)
            have e11 : V9 11 = .pointer (some ⟨wr.heap.size, 7, none⟩) := hS 11 (by decide)
            have e12 : V9 12 = .pointer (some ⟨wr.heap.size, 7, none⟩) := hS 12 (by decide)
            have e13 : V9 13 = .string (str tn) := hS 13 (by decide)
            have e14 : V9 14 = .int .i64 (whL ns tn) := hS 14 (by decide)
            have e15 : V9 15 = .pointer (some ⟨wr.heap.size, 7, none⟩) := hS 15 (by decide)
            have e16 : V9 16 = .pointer (some ⟨wr.heap.size, 8, none⟩) := hS 16 (by decide)
            have e17 : V9 17 = .int .i64 tp := hS 17 (by decide)
            have e18 : V9 18 = .pointer (some ⟨wr.heap.size, 3, none⟩) := hS 18 (by decide)
            have e19 : V9 19 = .slice qa qn qc := hS 19 (by decide)
            obtain ⟨za20, zc20, e20, -⟩ : AggX V id qn nu w9 (V9 20) := hS 20 (by decide)
            obtain ⟨za21, zc21, e21, -⟩ : AggX V (mkEX (whL ns fn) fp (whL ns tn) tp) qn nu w9 (V9 21) := hS 21 (by decide)
            obtain ⟨hx, za, zc, e22, Q1, Q2⟩ : NewX V (fun q => eP (⟨whL ns fn, fp, whL ns tn, tp, nu⟩, q)) qn nu w9 (V9 22) := hS 22 (by decide)
            simp only [List.drop_succ_cons, List.drop_zero, List.take_succ_cons, List.take_zero, puts, e0, e1, e2, e3, e4, e5, e6, e7, e8, e9, e10, e11, e12, e13, e14, e15, e16, e17, e18, e19, e20, e21, e22]
            clear hS e0 e1 e2 e3 e4 e5 e6 e7 e8 e9 e10 e11 e12 e13 e14 e15 e16 e17 e18 e19 e20 e21 e22 V9
            simp only [Act.put, List.setIfInBounds_toArray, List.set_cons_zero, List.set_cons_succ]
            have B5 := hiddenG q9
            have QC := hiddenG Q1
            have HLU : Hid (wE ns ⟨2, xn, xt, nu, ⟨fn, fp, fa⟩, ⟨tn, tp, ta⟩, pl⟩ = ⟨whL ns fn, fp, whL ns tn, tp, nu⟩) := by rfl
            generalize whL ns fn = u1 at *
            generalize whL ns tn = u2 at *
            have HP : Hid (ParQ B w9 (⟨u1, fp, u2, tp, nu⟩, .slice za qn zc)) := ⟨NOK.out, by have r := Q2.mono DV.out.big; unfold CapR at r; rw [HQN.out] at r; show w9.ownsRow B 3 1 _ nu.length _; rw [HQN.out]; exact r⟩
            clear q9 Q1 Q2 bb0 bb1 bb2 bb3 bb4 bb5 bb6 bb7 bb8 bb9 bb10 gg1 gg2 gg3 gg4 ss0 ss1
            go_wp2_with (at_builtin; refine wpList_append_told _ rfl (.tmp 52) (.tmp 73) 23 rfl B 65 iE (.agg #[.int .i64 0, .int .i64 0, .int .i64 0, .int .i64 0, .slice none 0 0]) 5 56 Tryz.underlying23 JE.out JE0.out JE1.out JE2.out rfl (by decide) (.slice x2 Es.length d2) Es.length (Es.flatMap eP) rfl (owns_below DV.out.r2 B5.out) ⟨hx, 0, none⟩ 1 1 (by decide) (eP (⟨u1, fp, u2, tp, nu⟩, .slice za qn zc)) rfl rfl QC.out (eP_one _ _ _ _) (by unfold maxLen; omega) (by omega) (Nat.le_trans DV.out.big B5.out.size) ?_; intro v' w4 ho ht; obtain ⟨D10, bk⟩ := DV.out.put2 B5.out HP.out ho ht; obtain ⟨va4, vc4, rfl⟩ := told_shape ht; have E10 := hiddenG D10; have s1 : w4.cell? ⟨w.heap.size + 2, 2, none⟩ = some (.slice x2 Es.length d2) := bk.cell rfl; have f1 := bk.frozen 2; clear ho ht D10 bk)
            go_roundg (n - (k + 1))
            case measure => omega
            case rel => exact ⟨k + 1, _, _, _, _, As, Es ++ [(⟨u1, fp, u2, tp, nu⟩, .slice za qn zc)], Ps, Os, by omega, rfl, by go_num, E10.out, by rw [TK.out]; exact (by have r := LL.out.addE (x := ⟨2, xn, xt, nu, ⟨fn, fp, fa⟩, ⟨tn, tp, ta⟩, pl⟩) rfl hm (.slice za qn zc); rw [HLU.out] at r; exact r)⟩
        · have hmI : ¬ (Es.length : Int) ≤ 96 := by omega
          go_wp2
          go_roundg (n - (k + 1))
          case measure => omega
          case rel => exact ⟨k + 1, _, _, _, _, As, Es, Ps, Os, by omega, rfl, by go_num, DV.out, by rw [TK.out]; exact LL.out.skipE (x := ⟨2, xn, xt, nu, ⟨fn, fp, fa⟩, ⟨tn, tp, ta⟩, pl⟩) rfl hm⟩
      · by_cases hm : Ps.length < 17
        · have hmI : (Ps.length : Int) ≤ 16 := by omega
          go_upto_region 15 with fail
          generalize wr.alloc (.cells #[.int .u8 3, .string (str xn), .string (str xt), .slice qa qn qc, .string (str fn), .int .i64 fp, .int .i64 fa, .string (str tn), .int .i64 tp, .int .i64 ta, .int .i64 pl] 103) = V at *
          clear c0 c1 c2 c3 c4 c5 c6 c7 c8 c9 c10 y1
          refine wp_region_said 14 (fun i u v => match i with
              | 0 => v = .pointer (some ⟨w.heap.size + 2, 3, none⟩)
              | 1 => v = .slice x3 Ps.length d3
              | 2 => v = .pointer (some ⟨wr.heap.size, 1, none⟩)
              | 3 => v = .string (str xn)
              | 4 => v = .agg #[.string (str nm), .slice (some ⟨g, off, none⟩) n c]
              | 5 => v = .pointer (some ⟨wr.heap.size, 7, none⟩)
              | 6 => v = .pointer (some ⟨wr.heap.size, 7, none⟩)
              | 7 => v = .string (str tn)
              | 8 => v = .int .i64 (whL ns tn)
              | 9 => v = .pointer (some ⟨wr.heap.size, 7, none⟩)
              | 10 => v = .pointer (some ⟨wr.heap.size, 8, none⟩)
              | 11 => v = .int .i64 tp
              | 12 => v = .agg #[.string (str xn), .int .i64 (whL ns tn), .int .i64 tp]
              | 13 => NewP u ⟨xn, whL ns tn, tp⟩ v
              | _ => True) (by kernel_rfl) (by kernel_rfl) (by kernel_rfl) (by kernel_rfl) ?_ ?_ ?_
          · intro i w v w' h hb
            match i, h with
            | 0, h => exact h
            | 1, h => exact h
            | 2, h => exact h
            | 3, h => exact h
            | 4, h => exact h
            | 5, h => exact h
            | 6, h => exact h
            | 7, h => exact h
            | 8, h => exact h
            | 9, h => exact h
            | 10, h => exact h
            | 11, h => exact h
            | 12, h => exact h
            | 13, h => exact NewP.later h hb
            | _ + 14, _ => trivial
          · intro i o ρ w' hi ho hb hc hf hfr hdep
            have b1 := cell_keep hb bb1
            have b7 := cell_keep hb bb7
            have b8 := cell_keep hb bb8
            have g3 := cell_keep hb gg3
            have s0 := cell_keep hb ss0
            have s1 := cell_keep hb ss1
            match i, hi with
            | 0, _ =>
              simp only [gTA, gCZ, gSI] at ho
              subst ho
              have ts : ρ (.tmp 3) = .pointer (some ⟨w.heap.size + 2, 0, none⟩) := hfr 3 (by kernel_rfl)
              simp [go_sem, ts]
              exact ⟨Below.refl _ _, rfl⟩
            | 1, _ =>
              simp only [gTA, gCZ, gCS, gSI] at ho
              subst ho
              have ts : ρ (.tmp 82) = .pointer (some ⟨w.heap.size + 2, 3, none⟩) := hdep 0 82 (by kernel_rfl) (by kernel_rfl)
              simp [go_sem, ts, g3]
              exact ⟨Below.refl _ _, rfl⟩
            | 2, _ =>
              simp only [gTA, gCZ, gCS, gSI] at ho
              subst ho
              have ts : ρ (.tmp 5) = .pointer (some ⟨wr.heap.size, 0, none⟩) := hfr 5 (by kernel_rfl)
              simp [go_sem, ts]
              exact ⟨Below.refl _ _, rfl⟩
            | 3, _ =>
              simp only [gTA, gCZ, gCS, gSI] at ho
              subst ho
              have ts : ρ (.tmp 84) = .pointer (some ⟨wr.heap.size, 1, none⟩) := hdep 2 84 (by kernel_rfl) (by kernel_rfl)
              simp [go_sem, ts, b1]
              exact ⟨Below.refl _ _, rfl⟩
            | 4, _ =>
              simp only [gTA, gCZ, gCS, gSI] at ho
              subst ho
              have ts : ρ (.tmp 1) = .pointer (some ⟨w.heap.size, 0, none⟩) := hfr 1 (by kernel_rfl)
              simp [go_sem, ts, s0, s1]
              exact ⟨Below.refl _ _, rfl⟩
            | 5, _ =>
              simp only [gTA, gCZ, gCS, gSI] at ho
              subst ho
              have ts : ρ (.tmp 5) = .pointer (some ⟨wr.heap.size, 0, none⟩) := hfr 5 (by kernel_rfl)
              simp [go_sem, ts]
              exact ⟨Below.refl _ _, rfl⟩
            | 6, _ =>
              simp only [gTA, gCZ, gCS, gSI] at ho
              subst ho
              have ts : ρ (.tmp 87) = .pointer (some ⟨wr.heap.size, 7, none⟩) := hdep 5 87 (by kernel_rfl) (by kernel_rfl)
              simp [go_sem, ts]
              exact ⟨Below.refl _ _, rfl⟩
            | 7, _ =>
              simp only [gTA, gCZ, gCS, gSI] at ho
              subst ho
              have ts : ρ (.tmp 88) = .pointer (some ⟨wr.heap.size, 7, none⟩) := hdep 6 88 (by kernel_rfl) (by kernel_rfl)
              simp [go_sem, ts, b7]
              exact ⟨Below.refl _ _, rfl⟩
            | 8, _ =>
              simp only [gTA, gCZ, gCS, gSI] at ho
              subst ho
              have t0 : ρ (.tmp 86) = .agg #[.string (str nm), .slice (some ⟨g, off, none⟩) n c] := hdep 4 86 (by kernel_rfl) (by kernel_rfl)
              have t1 : ρ (.tmp 89) = .string (str tn) := hdep 7 89 (by kernel_rfl) (by kernel_rfl)
              simp [go_sem, t0, t1, hf]
              exact ⟨rfl, (WH.out w' (BV.out.trans (hb.mono BV.out.size)) tn).mono fun e w'' hh => ⟨_, hh.1, hh.2, rfl⟩⟩
            | 9, _ =>
              simp only [gTA, gCZ, gCS, gSI] at ho
              subst ho
              have ts : ρ (.tmp 5) = .pointer (some ⟨wr.heap.size, 0, none⟩) := hfr 5 (by kernel_rfl)
              simp [go_sem, ts]
              exact ⟨Below.refl _ _, rfl⟩
            | 10, _ =>
              simp only [gTA, gCZ, gCS, gSI] at ho
              subst ho
              have ts : ρ (.tmp 91) = .pointer (some ⟨wr.heap.size, 7, none⟩) := hdep 9 91 (by kernel_rfl) (by kernel_rfl)
              simp [go_sem, ts]
              exact ⟨Below.refl _ _, rfl⟩
            | 11, _ =>
              simp only [gTA, gCZ, gCS, gSI] at ho
              subst ho
              have ts : ρ (.tmp 92) = .pointer (some ⟨wr.heap.size, 8, none⟩) := hdep 10 92 (by kernel_rfl) (by kernel_rfl)
              simp [go_sem, ts, b8]
              exact ⟨Below.refl _ _, rfl⟩
            | 12, _ =>
              simp only [gTA, gCZ, gCS, gSI] at ho
              subst ho
              have t0 : ρ (.tmp 85) = .string (str xn) := hdep 3 85 (by kernel_rfl) (by kernel_rfl)
              have t1 : ρ (.tmp 90) = .int .i64 (whL ns tn) := hdep 8 90 (by kernel_rfl) (by kernel_rfl)
              have t2 : ρ (.tmp 93) = .int .i64 tp := hdep 11 93 (by kernel_rfl) (by kernel_rfl)
              simp [go_sem, t0, t1, t2]
              exact ⟨Below.refl _ _, rfl⟩
            | 13, _ =>
              simp only [gTA, gCZ, gCS, gSI] at ho
              subst ho
              have t0 : ρ (.tmp 94) = .agg #[.string (str xn), .int .i64 (whL ns tn), .int .i64 tp] := hdep 12 94 (by kernel_rfl) (by kernel_rfl)
              simp [go_sem, t0]
              exact ⟨(Below.refl _ _).alloc (Nat.le_refl _) _, newP_new w' ⟨xn, whL ns tn, tp⟩⟩
          · intro V9 w9 q9 hS
            have e0 : V9 0 = .pointer (some ⟨w.heap.size + 2, 3, none⟩) := hS 0 (by decide)
            have e1 : V9 1 = .slice x3 Ps.length d3 := hS 1 (by decide)
            have e2 : V9 2 = .pointer (some ⟨wr.heap.size, 1, none⟩) := hS 2 (by decide)
            have e3 : V9 3 = .string (str xn) := hS 3 (by decide)
            have e4 : V9 4 = .agg #[.string (str nm), .slice (some ⟨g, off, none⟩) n c] := hS 4 (by decide)
            have e5 : V9 5 = .pointer (some ⟨wr.heap.size, 7, none⟩) := hS 5 (by decide)
            have e6 : V9 6 = .pointer (some ⟨wr.heap.size, 7, none⟩) := hS 6 (by decide)
            have e7 : V9 7 = .string (str tn) := hS 7 (by decide)
            have e8 : V9 8 = .int .i64 (whL ns tn) := hS 8 (by decide)
            have e9 : V9 9 = .pointer (some ⟨wr.heap.size, 7, none⟩) := hS 9 (by decide)
            have e10 : V9 10 = .pointer (some ⟨wr.heap.size, 8, none⟩) := hS 10 (by decide)
            have e11 : V9 11 = .int .i64 tp := hS 11 (by decide)
            have e12 : V9 12 = .agg #[.string (str xn), .int .i64 (whL ns tn), .int .i64 tp] := hS 12 (by decide)
            obtain ⟨hx, e13, Q1⟩ : NewP w9 ⟨xn, whL ns tn, tp⟩ (V9 13) := hS 13 (by decide)
            simp only [List.drop_succ_cons, List.drop_zero, List.take_succ_cons, List.take_zero, puts, e0, e1, e2, e3, e4, e5, e6, e7, e8, e9, e10, e11, e12, e13]
            clear hS e0 e1 e2 e3 e4 e5 e6 e7 e8 e9 e10 e11 e12 e13 V9
            simp only [Act.put, List.setIfInBounds_toArray, List.set_cons_zero, List.set_cons_succ]
            have B5 := hiddenG q9
            have QC := hiddenG Q1
            clear q9 Q1 bb0 bb1 bb2 bb3 bb4 bb5 bb6 bb7 bb8 bb9 bb10 gg1 gg2 gg3 gg4 ss0 ss1
            have HLU : Hid (wI ns ⟨3, xn, xt, nu, ⟨fn, fp, fa⟩, ⟨tn, tp, ta⟩, pl⟩ = ⟨xn, whL ns tn, tp⟩) := by rfl
            go_wp2_with (at_builtin; refine wpList_append_told _ rfl (.tmp 83) (.tmp 95) 24 rfl B 81 iP (.agg #[.string ⟨#[]⟩, .int .i64 0, .int .i64 0]) 3 32 Tryz.underlying24 JP.out JP0.out JP1.out JP2.out rfl (by decide) (.slice x3 Ps.length d3) Ps.length (Ps.flatMap pP) rfl (owns_below DV.out.r3 B5.out) ⟨hx, 0, none⟩ 1 1 (by decide) (pP ⟨xn, whL ns tn, tp⟩) rfl rfl QC.out (pP_one _) (by unfold maxLen; omega) (by omega) (Nat.le_trans DV.out.big B5.out.size) ?_; intro v' w4 ho ht; obtain ⟨D10, bk⟩ := DV.out.put3 B5.out ho ht; obtain ⟨va4, vc4, rfl⟩ := told_shape ht; have E10 := hiddenG D10; have s1 : w4.cell? ⟨w.heap.size + 2, 3, none⟩ = some (.slice x3 Ps.length d3) := bk.cell rfl; have f1 := bk.frozen 3; clear ho ht D10 bk)
            go_roundg (n - (k + 1))
            case measure => omega
            case rel => exact ⟨k + 1, _, _, _, _, As, Es, Ps ++ [⟨xn, whL ns tn, tp⟩], Os, by omega, rfl, by go_num, E10.out, by rw [TK.out]; exact (by have r := LL.out.addI (x := ⟨3, xn, xt, nu, ⟨fn, fp, fa⟩, ⟨tn, tp, ta⟩, pl⟩) rfl hm; rw [HLU.out] at r; exact r)⟩
        · have hmI : ¬ (Ps.length : Int) ≤ 16 := by omega
          go_wp2
          go_roundg (n - (k + 1))
          case measure => omega
          case rel => exact ⟨k + 1, _, _, _, _, As, Es, Ps, Os, by omega, rfl, by go_num, DV.out, by rw [TK.out]; exact LL.out.skipI (x := ⟨3, xn, xt, nu, ⟨fn, fp, fa⟩, ⟨tn, tp, ta⟩, pl⟩) rfl hm⟩
      · by_cases hm : Os.length < 17
        · have hmI : (Os.length : Int) ≤ 16 := by omega
          go_upto_region 18 with fail
          generalize wr.alloc (.cells #[.int .u8 4, .string (str xn), .string (str xt), .slice qa qn qc, .string (str fn), .int .i64 fp, .int .i64 fa, .string (str tn), .int .i64 tp, .int .i64 ta, .int .i64 pl] 103) = V at *
          clear c0 c1 c2 c3 c4 c5 c6 c7 c8 c9 c10 y1
          refine wp_region_said 14 (fun i u v => match i with
              | 0 => v = .pointer (some ⟨w.heap.size + 2, 4, none⟩)
              | 1 => v = .slice x4 Os.length d4
              | 2 => v = .pointer (some ⟨wr.heap.size, 1, none⟩)
              | 3 => v = .string (str xn)
              | 4 => v = .agg #[.string (str nm), .slice (some ⟨g, off, none⟩) n c]
              | 5 => v = .pointer (some ⟨wr.heap.size, 4, none⟩)
              | 6 => v = .pointer (some ⟨wr.heap.size, 4, none⟩)
              | 7 => v = .string (str fn)
              | 8 => v = .int .i64 (whL ns fn)
              | 9 => v = .pointer (some ⟨wr.heap.size, 4, none⟩)
              | 10 => v = .pointer (some ⟨wr.heap.size, 5, none⟩)
              | 11 => v = .int .i64 fp
              | 12 => v = .agg #[.string (str xn), .int .i64 (whL ns fn), .int .i64 fp]
              | 13 => NewP u ⟨xn, whL ns fn, fp⟩ v
              | _ => True) (by kernel_rfl) (by kernel_rfl) (by kernel_rfl) (by kernel_rfl) ?_ ?_ ?_
          · intro i w v w' h hb
            match i, h with
            | 0, h => exact h
            | 1, h => exact h
            | 2, h => exact h
            | 3, h => exact h
            | 4, h => exact h
            | 5, h => exact h
            | 6, h => exact h
            | 7, h => exact h
            | 8, h => exact h
            | 9, h => exact h
            | 10, h => exact h
            | 11, h => exact h
            | 12, h => exact h
            | 13, h => exact NewP.later h hb
            | _ + 14, _ => trivial
          · intro i o ρ w' hi ho hb hc hf hfr hdep
            have b1 := cell_keep hb bb1
            have b4 := cell_keep hb bb4
            have b5 := cell_keep hb bb5
            have g4 := cell_keep hb gg4
            have s0 := cell_keep hb ss0
            have s1 := cell_keep hb ss1
            match i, hi with
            | 0, _ =>
              simp only [gTA, gCZ, gSI] at ho
              subst ho
              have ts : ρ (.tmp 3) = .pointer (some ⟨w.heap.size + 2, 0, none⟩) := hfr 3 (by kernel_rfl)
              simp [go_sem, ts]
              exact ⟨Below.refl _ _, rfl⟩
            | 1, _ =>
              simp only [gTA, gCZ, gCS, gSI] at ho
              subst ho
              have ts : ρ (.tmp 104) = .pointer (some ⟨w.heap.size + 2, 4, none⟩) := hdep 0 104 (by kernel_rfl) (by kernel_rfl)
              simp [go_sem, ts, g4]
              exact ⟨Below.refl _ _, rfl⟩
            | 2, _ =>
              simp only [gTA, gCZ, gCS, gSI] at ho
              subst ho
              have ts : ρ (.tmp 5) = .pointer (some ⟨wr.heap.size, 0, none⟩) := hfr 5 (by kernel_rfl)
              simp [go_sem, ts]
              exact ⟨Below.refl _ _, rfl⟩
            | 3, _ =>
              simp only [gTA, gCZ, gCS, gSI] at ho
              subst ho
              have ts : ρ (.tmp 106) = .pointer (some ⟨wr.heap.size, 1, none⟩) := hdep 2 106 (by kernel_rfl) (by kernel_rfl)
              simp [go_sem, ts, b1]
              exact ⟨Below.refl _ _, rfl⟩
            | 4, _ =>
              simp only [gTA, gCZ, gCS, gSI] at ho
              subst ho
              have ts : ρ (.tmp 1) = .pointer (some ⟨w.heap.size, 0, none⟩) := hfr 1 (by kernel_rfl)
              simp [go_sem, ts, s0, s1]
              exact ⟨Below.refl _ _, rfl⟩
            | 5, _ =>
              simp only [gTA, gCZ, gCS, gSI] at ho
              subst ho
              have ts : ρ (.tmp 5) = .pointer (some ⟨wr.heap.size, 0, none⟩) := hfr 5 (by kernel_rfl)
              simp [go_sem, ts]
              exact ⟨Below.refl _ _, rfl⟩
            | 6, _ =>
              simp only [gTA, gCZ, gCS, gSI] at ho
              subst ho
              have ts : ρ (.tmp 109) = .pointer (some ⟨wr.heap.size, 4, none⟩) := hdep 5 109 (by kernel_rfl) (by kernel_rfl)
              simp [go_sem, ts]
              exact ⟨Below.refl _ _, rfl⟩
            | 7, _ =>
              simp only [gTA, gCZ, gCS, gSI] at ho
              subst ho
              have ts : ρ (.tmp 110) = .pointer (some ⟨wr.heap.size, 4, none⟩) := hdep 6 110 (by kernel_rfl) (by kernel_rfl)
              simp [go_sem, ts, b4]
              exact ⟨Below.refl _ _, rfl⟩
            | 8, _ =>
              simp only [gTA, gCZ, gCS, gSI] at ho
              subst ho
              have t0 : ρ (.tmp 108) = .agg #[.string (str nm), .slice (some ⟨g, off, none⟩) n c] := hdep 4 108 (by kernel_rfl) (by kernel_rfl)
              have t1 : ρ (.tmp 111) = .string (str fn) := hdep 7 111 (by kernel_rfl) (by kernel_rfl)
              simp [go_sem, t0, t1, hf]
              exact ⟨rfl, (WH.out w' (BV.out.trans (hb.mono BV.out.size)) fn).mono fun e w'' hh => ⟨_, hh.1, hh.2, rfl⟩⟩
            | 9, _ =>
              simp only [gTA, gCZ, gCS, gSI] at ho
              subst ho
              have ts : ρ (.tmp 5) = .pointer (some ⟨wr.heap.size, 0, none⟩) := hfr 5 (by kernel_rfl)
              simp [go_sem, ts]
              exact ⟨Below.refl _ _, rfl⟩
            | 10, _ =>
              simp only [gTA, gCZ, gCS, gSI] at ho
              subst ho
              have ts : ρ (.tmp 113) = .pointer (some ⟨wr.heap.size, 4, none⟩) := hdep 9 113 (by kernel_rfl) (by kernel_rfl)
              simp [go_sem, ts]
              exact ⟨Below.refl _ _, rfl⟩
            | 11, _ =>
              simp only [gTA, gCZ, gCS, gSI] at ho
              subst ho
              have ts : ρ (.tmp 114) = .pointer (some ⟨wr.heap.size, 5, none⟩) := hdep 10 114 (by kernel_rfl) (by kernel_rfl)
              simp [go_sem, ts, b5]
              exact ⟨Below.refl _ _, rfl⟩
            | 12, _ =>
              simp only [gTA, gCZ, gCS, gSI] at ho
              subst ho
              have t0 : ρ (.tmp 107) = .string (str xn) := hdep 3 107 (by kernel_rfl) (by kernel_rfl)
              have t1 : ρ (.tmp 112) = .int .i64 (whL ns fn) := hdep 8 112 (by kernel_rfl) (by kernel_rfl)
              have t2 : ρ (.tmp 115) = .int .i64 fp := hdep 11 115 (by kernel_rfl) (by kernel_rfl)
              simp [go_sem, t0, t1, t2]
              exact ⟨Below.refl _ _, rfl⟩
            | 13, _ =>
              simp only [gTA, gCZ, gCS, gSI] at ho
              subst ho
              have t0 : ρ (.tmp 116) = .agg #[.string (str xn), .int .i64 (whL ns fn), .int .i64 fp] := hdep 12 116 (by kernel_rfl) (by kernel_rfl)
              simp [go_sem, t0]
              exact ⟨(Below.refl _ _).alloc (Nat.le_refl _) _, newP_new w' ⟨xn, whL ns fn, fp⟩⟩
          · intro V9 w9 q9 hS
            have e0 : V9 0 = .pointer (some ⟨w.heap.size + 2, 4, none⟩) := hS 0 (by decide)
            have e1 : V9 1 = .slice x4 Os.length d4 := hS 1 (by decide)
            have e2 : V9 2 = .pointer (some ⟨wr.heap.size, 1, none⟩) := hS 2 (by decide)
            have e3 : V9 3 = .string (str xn) := hS 3 (by decide)
            have e4 : V9 4 = .agg #[.string (str nm), .slice (some ⟨g, off, none⟩) n c] := hS 4 (by decide)
            have e5 : V9 5 = .pointer (some ⟨wr.heap.size, 4, none⟩) := hS 5 (by decide)
            have e6 : V9 6 = .pointer (some ⟨wr.heap.size, 4, none⟩) := hS 6 (by decide)
            have e7 : V9 7 = .string (str fn) := hS 7 (by decide)
            have e8 : V9 8 = .int .i64 (whL ns fn) := hS 8 (by decide)
            have e9 : V9 9 = .pointer (some ⟨wr.heap.size, 4, none⟩) := hS 9 (by decide)
            have e10 : V9 10 = .pointer (some ⟨wr.heap.size, 5, none⟩) := hS 10 (by decide)
            have e11 : V9 11 = .int .i64 fp := hS 11 (by decide)
            have e12 : V9 12 = .agg #[.string (str xn), .int .i64 (whL ns fn), .int .i64 fp] := hS 12 (by decide)
            obtain ⟨hx, e13, Q1⟩ : NewP w9 ⟨xn, whL ns fn, fp⟩ (V9 13) := hS 13 (by decide)
            simp only [List.drop_succ_cons, List.drop_zero, List.take_succ_cons, List.take_zero, puts, e0, e1, e2, e3, e4, e5, e6, e7, e8, e9, e10, e11, e12, e13]
            clear hS e0 e1 e2 e3 e4 e5 e6 e7 e8 e9 e10 e11 e12 e13 V9
            simp only [Act.put, List.setIfInBounds_toArray, List.set_cons_zero, List.set_cons_succ]
            have B5 := hiddenG q9
            have QC := hiddenG Q1
            clear q9 Q1 bb0 bb1 bb2 bb3 bb4 bb5 bb6 bb7 bb8 bb9 bb10 gg1 gg2 gg3 gg4 ss0 ss1
            have HLU : Hid (wO ns ⟨4, xn, xt, nu, ⟨fn, fp, fa⟩, ⟨tn, tp, ta⟩, pl⟩ = ⟨xn, whL ns fn, fp⟩) := by rfl
            go_wp2_with (at_builtin; refine wpList_append_told _ rfl (.tmp 105) (.tmp 117) 24 rfl B 81 iP (.agg #[.string ⟨#[]⟩, .int .i64 0, .int .i64 0]) 3 32 Tryz.underlying24 JP.out JP0.out JP1.out JP2.out rfl (by decide) (.slice x4 Os.length d4) Os.length (Os.flatMap pP) rfl (owns_below DV.out.r4 B5.out) ⟨hx, 0, none⟩ 1 1 (by decide) (pP ⟨xn, whL ns fn, fp⟩) rfl rfl QC.out (pP_one _) (by unfold maxLen; omega) (by omega) (Nat.le_trans DV.out.big B5.out.size) ?_; intro v' w4 ho ht; obtain ⟨D10, bk⟩ := DV.out.put4 B5.out ho ht; obtain ⟨va4, vc4, rfl⟩ := told_shape ht; have E10 := hiddenG D10; have s1 : w4.cell? ⟨w.heap.size + 2, 4, none⟩ = some (.slice x4 Os.length d4) := bk.cell rfl; have f1 := bk.frozen 4; clear ho ht D10 bk)
            go_roundg (n - (k + 1))
            case measure => omega
            case rel => exact ⟨k + 1, _, _, _, _, As, Es, Ps, Os ++ [⟨xn, whL ns fn, fp⟩], by omega, rfl, by go_num, E10.out, by rw [TK.out]; exact (by have r := LL.out.addO (x := ⟨4, xn, xt, nu, ⟨fn, fp, fa⟩, ⟨tn, tp, ta⟩, pl⟩) rfl hm; rw [HLU.out] at r; exact r)⟩
        · have hmI : ¬ (Os.length : Int) ≤ 16 := by omega
          go_wp2
          go_roundg (n - (k + 1))
          case measure => omega
          case rel => exact ⟨k + 1, _, _, _, _, As, Es, Ps, Os, by omega, rfl, by go_num, DV.out, by rw [TK.out]; exact LL.out.skipO (x := ⟨4, xn, xt, nu, ⟨fn, fp, fa⟩, ⟨tn, tp, ta⟩, pl⟩) rfl hm⟩
    · have hki : ¬ (k : Int) < (n : Int) := by omega
      have s0 : wr.cell? ⟨w.heap.size + 2, 0, none⟩ = some (.string (str nm)) := DD.out.gb.cell rfl
      have s1 : wr.cell? ⟨w.heap.size + 2, 1, none⟩ = some (.slice x1 As.length d1) := DD.out.gb.cell rfl
      have s2 : wr.cell? ⟨w.heap.size + 2, 2, none⟩ = some (.slice x2 Es.length d2) := DD.out.gb.cell rfl
      have s3 : wr.cell? ⟨w.heap.size + 2, 3, none⟩ = some (.slice x3 Ps.length d3) := DD.out.gb.cell rfl
      have s4 : wr.cell? ⟨w.heap.size + 2, 4, none⟩ = some (.slice x4 Os.length d4) := DD.out.gb.cell rfl
      go_wp2_with (refine wpList_storeW _ rfl 26 (.tmp 2) (.tmp 120) rfl rfl (w.heap.size + 1) 26 _ _ rfl rfl DD.out.rb sizG rfl rfl ?_; intro w8 hN hU; have N8 := hiddenG hN; have U8 := hiddenG hU; clear hN hU)
      have t0 : w8.cell? ⟨w.heap.size + 1, 0, none⟩ = some (.string (str nm)) := N8.out.cell rfl
      have t1 : w8.cell? ⟨w.heap.size + 1, 1, none⟩ = some (.slice x1 As.length d1) := N8.out.cell rfl
      have t2 : w8.cell? ⟨w.heap.size + 1, 2, none⟩ = some (.slice x2 Es.length d2) := N8.out.cell rfl
      have t3 : w8.cell? ⟨w.heap.size + 1, 3, none⟩ = some (.slice x3 Ps.length d3) := N8.out.cell rfl
      have t4 : w8.cell? ⟨w.heap.size + 1, 4, none⟩ = some (.slice x4 Os.length d4) := N8.out.cell rfl
      refine bodyPost_ret (v := .agg #[.string (str nm), .slice x1 As.length d1, .slice x2 Es.length d2, .slice x3 Ps.length d3, .slice x4 Os.length d4]) (by simp [results, Tryz.results58, go_sem, t0, t1, t2, t3, t4]) rfl ?_
      have d := DD.out
      have hs := d.bel.size
      have hBB := d.hB
      have lo : w.heap.size ≤ B := by omega
      have kp : ∀ {T c n : Nat} {v : Value} {xs : List Value}, wr.ownsRow B T c v n xs → w8.ownsRow w.heap.size T c v n xs := fun r => owns_mono (ownR_keep r fun k e => U8.out.block k (own_lt r k e) (fun q => by have := own_row r k e; omega)) lo
      refine ⟨_, _, _, _, As, Es, Ps, Os, rfl, kp d.r1, kp d.r2, kp d.r3, kp d.r4, ?_, fun p hp => ⟨(d.pa p hp).1, (d.pa p hp).2.1, kp (d.pa p hp).2.2⟩, fun p hp => ⟨(d.pe p hp).1, kp (d.pe p hp).2⟩, d.bel.trans (U8.out.below (Nat.le_succ _) d.bel.size)⟩
      have r := LL.out
      rw [List.take_of_length_le (by rw [List.length_map, HL.out]; omega)] at r
      rw [HNS.out]
      exact r
theorem own_type {B n c : Nat} {w : World} {T S : TypeId} {v : Value} {xs : List Value} {cs : Array Value} {hb : Nat} (h : w.ownsRow B T c v n xs) (hX : BlkA S hb w cs) (hT : S ≠ T) : ∀ k, v.ownBlock = some k → k ≠ hb := by
  intro k hk e
  rcases h.2 with ⟨hv, -⟩ | ⟨g, cap, cur, hv, hg, hh, -⟩
  · rw [hv] at hk; cases hk
  · rw [hv] at hk
    cases hk
    subst e
    rw [show w.heap[g]? = some (.cells cs S (0, 0)) from hX] at hh
    injection hh with hh
    injection hh with h1 h2
    exact hT h2
/-- A graph's box and the row in its field f, while that row is filled; w0: the world ahead of it. -/
structure FilO (w0 wr : World) (hb : Nat) (T : TypeId) (c : Nat) (cs : Array Value) (v : Value) (n : Nat) (xs : List Value) : Prop where
  blk : BlkA 26 hb wr cs
  row : wr.ownsRow w0.heap.size T c v n xs
  old : hb < w0.heap.size
  chg : Chg (fun k => k = hb ∨ w0.heap.size ≤ k) w0 wr
theorem FilO.far {w0 wr : World} {hb : Nat} {T : TypeId} {c : Nat} {cs : Array Value} {v : Value} {n : Nat} {xs : List Value} (h : FilO w0 wr hb T c cs v n xs) : v.ownBlock ≠ some hb := fun e => by
  have := own_row h.row _ e
  have := h.old
  omega
theorem FilO.nil {w0 : World} {hb : Nat} (T : TypeId) (c : Nat) {cs : Array Value} (h : BlkA 26 hb w0 cs) : FilO w0 w0 hb T c cs (.slice none 0 0) 0 [] :=
  ⟨h, World.ownsRow_nil _ _ _ _, h.lt, Chg.of_below (Below.refl _ _)⟩
theorem FilO.step {w0 V u : World} {hb : Nat} {T : TypeId} {c f : Nat} {cs : Array Value} {v : Value} {n : Nat} {xs e : List Value} (h : FilO w0 V hb T c cs v n xs) (ap : AppE (fun _ es => es = e) V w0.heap.size T c v n xs 26 hb f cs u) : ∃ g k, FilO w0 u hb T c (cs.setIfInBounds f (.slice (some ⟨g, 0, none⟩) (n + 1) k)) (.slice (some ⟨g, 0, none⟩) (n + 1) k) (n + 1) (xs ++ e) := by
  obtain ⟨es, w1, u1, z, hD, hbut, hblk⟩ := ap
  obtain ⟨g, cap, rfl⟩ := hD.shape
  have e1 : es = e := hD.el
  subst e1
  have hgB : w0.heap.size ≤ g := own_row hD.own g rfl
  have hold := h.old
  refine ⟨g, cap, hblk, ownR_keep hD.own (fun k hk => hbut.block k (own_lt hD.own k hk) (by have := own_row hD.own k hk; omega)), h.old, ?_⟩
  have c1 := h.chg.trans hD.chg (fun k hk => .inr (own_row h.row k hk))
  exact c1.trans (F' := fun k => k = hb) ⟨hbut.os, hbut.tape, hbut.output, hbut.size, fun k hk hn => hbut.block k hk hn⟩ (fun k hk => .inl (.inl hk))
theorem FilO.bel {w0 wr : World} {hb : Nat} {T : TypeId} {c : Nat} {cs : Array Value} {v : Value} {n : Nat} {xs : List Value} (h : FilO w0 wr hb T c cs v n xs) {Q : Nat} (hQ : Q ≤ hb) : Below Q w0 wr := by
  have := h.old
  exact ⟨h.chg.os, h.chg.tape, h.chg.output, h.chg.size, fun k hk => h.chg.block k (by omega) (by omega)⟩
theorem FilO.keep {w0 wr : World} {hb : Nat} {T : TypeId} {c : Nat} {cs : Array Value} {v : Value} {n : Nat} {xs : List Value} (h : FilO w0 wr hb T c cs v n xs) : ∀ k, k < w0.heap.size → k ≠ hb → wr.heap[k]? = w0.heap[k]? := fun k hk hn => h.chg.block k hk (by omega)
theorem GrE.tail {w : World} {b off : Nat} {e : GE} {es : List GE} (h : GrE w (some ⟨b, off, none⟩) (e :: es)) : GrE w (some ⟨b, off + 5, none⟩) es := by
  rcases h with h | ⟨b', off', e1, hc⟩
  · cases h
  · cases e1
    refine .inr ⟨b, off + 5, rfl, fun k hk => ?_⟩
    have := hc (k + 1) (Nat.succ_lt_succ hk)
    have e2 : off + (k + 1) * 5 = off + 5 + k * 5 := by omega
    rw [e2] at this
    exact this
theorem AtPt.tail {w : World} {b off : Nat} {e : GP} {es : List GP} (h : AtPt w (some ⟨b, off, none⟩) (e :: es)) : AtPt w (some ⟨b, off + 3, none⟩) es := by
  rcases h with h | ⟨b', off', e1, hc⟩
  · cases h
  · cases e1
    refine .inr ⟨b, off + 3, rfl, fun k hk => ?_⟩
    have := hc (k + 1) (Nat.succ_lt_succ hk)
    have e2 : off + (k + 1) * 3 = off + 3 + k * 3 := by omega
    rw [e2] at this
    exact this
theorem own_capO {B n c cap : Nat} {w : World} {T : TypeId} {a : Option Addr} {xs : List Value} (h : w.ownsRow B T c (.slice a n cap) n xs) : n ≤ cap := by
  rcases h.2 with ⟨hv, hn⟩ | ⟨g, cap', cur, hv, hg, hh, hc, -⟩
  · omega
  · cases hv; exact hc
end Go.Proofs.YtolpelfdhcccnaaGreatDoor
namespace Go.Proofs.YtolpelfdhcccnaaGreatDoor
open Go.RowKit
def aN : GA := ⟨[97], 0, []⟩
def gSN (second : List UInt8) (es : List GE) : GG := ⟨[103], [⟨[97], 2, [2]⟩, ⟨second, 8, []⟩], es, [⟨[120], 0, 0⟩], [⟨[121], 1, 0⟩]⟩
def eSN (f : Int) (start : List Int) : GE := ⟨f, 0, 1, 0, start⟩
end Go.Proofs.YtolpelfdhcccnaaGreatDoor
namespace Go.Proofs.YtolpelfdhcccnaaGreatDoor
open Go.ChangeShapes Go.WideShapes Go.ChangeAt Go.RowKit
/-- A graph's box and the row in its field f, while that row is filled; w0: the world ahead of it. -/
structure FilS (S : TypeId) (w0 wr : World) (hb : Nat) (T : TypeId) (c : Nat) (cs : Array Value) (v : Value) (n : Nat) (xs : List Value) : Prop where
  blk : BlkA S hb wr cs
  row : wr.ownsRow w0.heap.size T c v n xs
  old : hb < w0.heap.size
  chg : Chg (fun k => k = hb ∨ w0.heap.size ≤ k) w0 wr
theorem FilS.far {S : TypeId} {w0 wr : World} {hb : Nat} {T : TypeId} {c : Nat} {cs : Array Value} {v : Value} {n : Nat} {xs : List Value} (h : FilS S w0 wr hb T c cs v n xs) : v.ownBlock ≠ some hb := fun e => by
  have := own_row h.row _ e
  have := h.old
  omega
theorem FilS.nil {S : TypeId} {w0 : World} {hb : Nat} (T : TypeId) (c : Nat) {cs : Array Value} (h : BlkA S hb w0 cs) : FilS S w0 w0 hb T c cs (.slice none 0 0) 0 [] :=
  ⟨h, World.ownsRow_nil _ _ _ _, h.lt, Chg.of_below (Below.refl _ _)⟩
theorem FilS.step {S : TypeId} {w0 V u : World} {hb : Nat} {T : TypeId} {c f : Nat} {cs : Array Value} {v : Value} {n : Nat} {xs e : List Value} (h : FilS S w0 V hb T c cs v n xs) (ap : AppE (fun _ es => es = e) V w0.heap.size T c v n xs S hb f cs u) : ∃ g k, FilS S w0 u hb T c (cs.setIfInBounds f (.slice (some ⟨g, 0, none⟩) (n + 1) k)) (.slice (some ⟨g, 0, none⟩) (n + 1) k) (n + 1) (xs ++ e) := by
  obtain ⟨es, w1, u1, z, hD, hbut, hblk⟩ := ap
  obtain ⟨g, cap, rfl⟩ := hD.shape
  have e1 : es = e := hD.el
  subst e1
  have hgB : w0.heap.size ≤ g := own_row hD.own g rfl
  have hold := h.old
  refine ⟨g, cap, hblk, ownR_keep hD.own (fun k hk => hbut.block k (own_lt hD.own k hk) (by have := own_row hD.own k hk; omega)), h.old, ?_⟩
  have c1 := h.chg.trans hD.chg (fun k hk => .inr (own_row h.row k hk))
  exact c1.trans (F' := fun k => k = hb) ⟨hbut.os, hbut.tape, hbut.output, hbut.size, fun k hk hn => hbut.block k hk hn⟩ (fun k hk => .inl (.inl hk))
theorem FilS.bel {S : TypeId} {w0 wr : World} {hb : Nat} {T : TypeId} {c : Nat} {cs : Array Value} {v : Value} {n : Nat} {xs : List Value} (h : FilS S w0 wr hb T c cs v n xs) {Q : Nat} (hQ : Q ≤ hb) : Below Q w0 wr := by
  have := h.old
  exact ⟨h.chg.os, h.chg.tape, h.chg.output, h.chg.size, fun k hk => h.chg.block k (by omega) (by omega)⟩
theorem FilS.keep {S : TypeId} {w0 wr : World} {hb : Nat} {T : TypeId} {c : Nat} {cs : Array Value} {v : Value} {n : Nat} {xs : List Value} (h : FilS S w0 wr hb T c cs v n xs) : ∀ k, k < w0.heap.size → k ≠ hb → wr.heap[k]? = w0.heap[k]? := fun k hk hn => h.chg.block k hk (by omega)
/-- The blocks of a small graph, its second actor's name and its edges aside. -/
structure SmX (b : Nat) (nm : ByteArray) (w : World) : Prop where
  i2 : BlkA 3 (b + 1) w #[.int .i64 2]
  ac : BlkA 62 (b + 2) w #[.string ⟨#[97]⟩, .int .u8 2, .slice (some ⟨b + 1, 0, none⟩) 1 1, .string nm, .int .u8 8, .slice none 0 0]
  pi : BlkA 81 (b + 5) w #[.string ⟨#[120]⟩, .int .i64 0, .int .i64 0]
  po : BlkA 81 (b + 6) w #[.string ⟨#[121]⟩, .int .i64 1, .int .i64 0]
theorem SmX.keep {b : Nat} {nm : ByteArray} {w w' : World} (h : SmX b nm w) (hk : ∀ k, k = b + 1 ∨ k = b + 2 ∨ k = b + 5 ∨ k = b + 6 → k < w.heap.size → w'.heap[k]? = w.heap[k]?) : SmX b nm w' :=
  ⟨h.i2.keep (hk _ (by omega) h.i2.lt), h.ac.keep (hk _ (by omega) h.ac.lt), h.pi.keep (hk _ (by omega) h.pi.lt), h.po.keep (hk _ (by omega) h.po.lt)⟩
theorem SmB.x {b : Nat} {tp : Int} {w : World} (h : SmB b tp w) : SmX b ⟨#[98]⟩ w := ⟨h.i2, h.ac, h.pi, h.po⟩
theorem SmB.but {b gb : Nat} {tp : Int} {w w' : World} (h : SmB b tp w) (hB : But gb w w') (hg : gb < b) : SmB b tp w' :=
  ⟨h.i2.keep (hB.block _ h.i2.lt (by omega)), h.ac.keep (hB.block _ h.ac.lt (by omega)), h.i7.keep (hB.block _ h.i7.lt (by omega)), h.ed.keep (hB.block _ h.ed.lt (by omega)), h.pi.keep (hB.block _ h.pi.lt (by omega)), h.po.keep (hB.block _ h.po.lt (by omega))⟩
theorem SmX.gr {b : Nat} {nm : List UInt8} {w : World} (h : SmX b (str nm) w) {x : Option Addr} {es : List GE} (hE : GrE w x es) (hl : es.length ≤ 10) : GrG w (some ⟨b + 2, 0, none⟩) x (some ⟨b + 5, 0, none⟩) (some ⟨b + 6, 0, none⟩) (gSN nm es) := by
  refine ⟨.inr ⟨b + 2, 0, rfl, fun k hk => ?_⟩, hE, .inr ⟨b + 5, 0, rfl, fun k hk => ?_⟩, .inr ⟨b + 6, 0, rfl, fun k hk => ?_⟩, by show 2 ≤ 1000000000000000; decide, by show es.length ≤ 1000000000000000; omega, by show 1 ≤ 1000000000000000; decide, by show 1 ≤ 1000000000000000; decide⟩
  · match k, hk with
    | 0, _ => exact ⟨h.ac.cell (k := 0) rfl, h.ac.cell (k := 1) rfl, by show 2 ≤ 255; decide, _, _, h.ac.cell (k := 2) rfl, arg_one h.i2 (by decide)⟩
    | 1, _ => exact ⟨h.ac.cell (k := 3) rfl, h.ac.cell (k := 4) rfl, by show 8 ≤ 255; decide, _, _, h.ac.cell (k := 5) rfl, arg_nil⟩
    | k + 2, hk => exact absurd hk (by show ¬ k + 2 < 2; omega)
  · match k, hk with
    | 0, _ => exact ⟨h.pi.cell (k := 0) rfl, h.pi.cell (k := 1) rfl, h.pi.cell (k := 2) rfl⟩
    | k + 1, hk => exact absurd hk (by show ¬ k + 1 < 1; omega)
  · match k, hk with
    | 0, _ => exact ⟨h.po.cell (k := 0) rfl, h.po.cell (k := 1) rfl, h.po.cell (k := 2) rfl⟩
    | k + 1, hk => exact absurd hk (by show ¬ k + 1 < 1; omega)
theorem grE_one {w : World} {g : Nat} {f : Int} {d : Option Addr} {k : Nat} {st : List Int} (h : BlkA 65 g w #[.int .i64 f, .int .i64 0, .int .i64 1, .int .i64 0, .slice d st.length k]) (ha : Arg w d st.length k st) : GrE w (some ⟨g, 0, none⟩) [eSN f st] :=
  .inr ⟨g, 0, rfl, fun i hi => by
    match i, hi with
    | 0, _ => exact ⟨h.cell (k := 0) rfl, h.cell (k := 1) rfl, h.cell (k := 2) rfl, h.cell (k := 3) rfl, _, _, h.cell (k := 4) rfl, ha⟩
    | i + 1, hi => exact absurd hi (by show ¬ i + 1 < 1; omega)⟩
theorem FilS.later {S : TypeId} {w0 wr w' : World} {hb : Nat} {T : TypeId} {c : Nat} {cs : Array Value} {v : Value} {n : Nat} {xs : List Value} (h : FilS S w0 wr hb T c cs v n xs) (hb' : Below wr.heap.size wr w') : FilS S w0 w' hb T c cs v n xs :=
  ⟨h.blk.below hb', owns_below h.row hb', h.old, h.chg.trans (F' := fun k => k = hb ∨ w0.heap.size ≤ k) (Chg.of_below hb') (fun _ hk => .inl hk)⟩
/-- The small graph whose edge's tokens grow: k of them behind the first. -/
structure FilT (w wr : World) (b k : Nat) (d : Option Addr) (kk : Nat) : Prop where
  box : BlkA 65 (b + 4) wr #[.int .i64 0, .int .i64 0, .int .i64 1, .int .i64 0, .slice d (k + 1) kk]
  row : wr.ownsRow (b + 3) 3 1 (.slice d (k + 1) kk) (k + 1) (((7 : Int) :: List.replicate k 1).map (Value.int .i64))
  sx : SmX b ⟨#[98]⟩ wr
  gx : BlkA 26 w.heap.size wr #[.string ⟨#[103]⟩, .slice (some ⟨b + 2, 0, none⟩) 2 2, .slice (some ⟨b + 4, 0, none⟩) 1 1, .slice (some ⟨b + 5, 0, none⟩) 1 1, .slice (some ⟨b + 6, 0, none⟩) 1 1]
  low : w.heap.size < b
  bel : Below w.heap.size w wr
theorem FilT.far {w wr : World} {b k : Nat} {d : Option Addr} {kk : Nat} (h : FilT w wr b k d kk) : (.slice d (k + 1) kk : Value).ownBlock ≠ some (b + 4) := fun e => own_type h.row h.box (by decide) _ e rfl
theorem tok_next (k : Nat) : ((7 : Int) :: List.replicate (k + 1) 1).map (Value.int .i64) = ((7 : Int) :: List.replicate k 1).map (Value.int .i64) ++ [.int .i64 1] := by
  rw [List.replicate_succ', ← List.cons_append, List.map_append]
  rfl
theorem FilT.step {w V u : World} {b k : Nat} {d : Option Addr} {kk : Nat} (h : FilT w V b k d kk) (ap : AppE (fun _ es => es = [.int .i64 1]) V (b + 3) 3 1 (.slice d (k + 1) kk) (k + 1) (((7 : Int) :: List.replicate k 1).map (Value.int .i64)) 65 (b + 4) 4 #[.int .i64 0, .int .i64 0, .int .i64 1, .int .i64 0, .slice d (k + 1) kk] u) : ∃ d' kk', FilT w u b (k + 1) d' kk' := by
  obtain ⟨es, w1, u1, z, hD, hbut, hblk⟩ := ap
  obtain ⟨g, cap, rfl⟩ := hD.shape
  have e1 : es = [.int .i64 1] := hD.el
  subst e1
  have hlow := h.low
  have hb1 : BlkA 65 (b + 4) u1 _ := h.box.keep (hD.chg.block _ h.box.lt h.far)
  have kp : ∀ j, j < V.heap.size → (.slice d (k + 1) kk : Value).ownBlock ≠ some j → j ≠ b + 4 → u.heap[j]? = V.heap[j]? := fun j hj hn h4 => (hbut.block j (Nat.lt_of_lt_of_le hj hD.chg.size) h4).trans (hD.chg.block j hj hn)
  have no : ∀ j, j < b + 3 → (.slice d (k + 1) kk : Value).ownBlock ≠ some j := fun j hj e => by have := own_row h.row j e; omega
  refine ⟨some ⟨g, 0, none⟩, cap, hblk, ?_, ?_, ?_, h.low, ?_⟩
  · rw [tok_next]
    exact ownR_keep hD.own (fun j hj => hbut.block j (own_lt hD.own j hj) (own_type hD.own hb1 (by decide) j hj))
  · refine h.sx.keep fun j hj hl => kp j hl ?_ (by omega)
    rcases hj with rfl | rfl | rfl | rfl
    · exact no _ (by omega)
    · exact no _ (by omega)
    · exact fun e => own_type h.row h.sx.pi (by decide) _ e rfl
    · exact fun e => own_type h.row h.sx.po (by decide) _ e rfl
  · exact h.gx.keep (kp _ h.gx.lt (no _ (by omega)) (by omega))
  · exact h.bel.trans ⟨hbut.os.trans hD.chg.os, hbut.tape.trans hD.chg.tape, hbut.output.trans hD.chg.output, Nat.le_trans hD.chg.size hbut.size, fun j hj => kp j (Nat.lt_of_lt_of_le hj h.bel.size) (no _ (by omega)) (by omega)⟩
theorem FilT.later {w wr w' : World} {b k : Nat} {d : Option Addr} {kk : Nat} (h : FilT w wr b k d kk) (hb : Below wr.heap.size wr w') : FilT w w' b k d kk :=
  ⟨h.box.below hb, owns_below h.row hb, h.sx.keep (fun j _ hl => hb.block j hl), h.gx.below hb, h.low, h.bel.trans (hb.mono h.bel.size)⟩
theorem FilT.gr {w wr : World} {b k : Nat} {d : Option Addr} {kk : Nat} (h : FilT w wr b k d kk) (hk : k ≤ 300) : GrG wr (some ⟨b + 2, 0, none⟩) (some ⟨b + 4, 0, none⟩) (some ⟨b + 5, 0, none⟩) (some ⟨b + 6, 0, none⟩) (gSN [98] [eSN 0 (7 :: List.replicate k 1)]) := by
  have hl : ((7 : Int) :: List.replicate k 1).length = k + 1 := by simp
  have hcap := own_capO h.row
  refine SmX.gr (nm := [98]) h.sx (grE_one (d := d) (k := kk) (by rw [hl]; exact h.box) ?_) (by simp)
  rw [hl]
  refine ⟨hl, by omega, fun e => ?_, fun i => ?_, ?_, hcap⟩
  · subst e
    rcases h.row.2 with ⟨hv, hn⟩ | ⟨g, c, cur, hv, -⟩
    · omega
    · cases hv
  · unfold nth
    rw [List.getD_eq_getElem?_getD]
    by_cases hi : i < ((7 : Int) :: List.replicate k 1).length
    · rw [List.getElem?_eq_getElem hi]
      have hm := List.getElem_mem hi
      simp only [Option.getD_some]
      rcases List.mem_cons.1 hm with e | e
      · rw [e]; decide
      · rw [(List.mem_replicate.1 e).2]; decide
    · rw [List.getElem?_eq_none (by omega)]; decide
  · have q : CapR (b + 3) wr d kk ((7 : Int) :: List.replicate k 1) := by unfold CapR; rw [hl]; exact h.row
    exact q.at
theorem BlkA.grown {T n w w' cs} {row : Option Nat} (h : BlkA T n w cs) (hg : w.grownBy w' row) (hn : some n ≠ row) : BlkA T n w' cs := (hg.block n h.lt hn).trans h
theorem BlkA.other {T n w cs} (h : BlkA T n w cs) {m k : Nat} (hn : n ≠ m) (u : Value) : BlkA T n (w.setCell ⟨m, k, none⟩ u) cs := (Below.heap_setCell w _ _ n hn).trans h
structure LSk (w : World) (nm : List UInt8) (a : Option Addr) (n c : Nat) (L : List (Itm × Value)) (k : Nat) (v : Value) (M : List (Itm × Value)) (wr : World) : Prop where
  b1 : BlkA 52 w.heap.size wr #[.string (str nm), .slice a n c]
  b2 : BlkA 52 (w.heap.size + 1) wr #[.string ⟨#[]⟩, .slice none 0 0]
  b3 : BlkA 52 (w.heap.size + 2) wr #[.string (str nm), v]
  its : Its (w.heap.size + 3) wr v M
  same : M.map Prod.fst = (L.take k).map Prod.fst
  len : M.length = k
  bel : Below w.heap.size w wr
  big : w.heap.size + 3 ≤ wr.heap.size
theorem LSk.put {w nm a n c L k v M wr} {L2 : List (Itm × Value)} (h : LSk w nm a n c L k v M wr) {w2 w4 : World} {x : Itm} {q v' : Value} {m : Nat} {M' : List (Itm × Value)} {k' : Nat} (hb : Below wr.heap.size wr w2) (hq : Ints m w2 q x.nums) (hm : wr.heap.size ≤ m)
    (ho : w4.ownsRow (w.heap.size + 3) 103 11 v' (M.length + 1) (M.flatMap itP ++ itP (x, q)))
    (ht : (∃ g cap, v = .slice (some ⟨g, 0, none⟩) M.length cap ∧ v' = .slice (some ⟨g, 0, none⟩) (M.length + 1) cap ∧ w2.grownBy w4 (some g)) ∨ (∃ cap, v' = .slice (some ⟨w2.heap.size, 0, none⟩) (M.length + 1) cap ∧ w2.grownBy w4 none))
    (hM : M' = M ++ [(x, q)]) (hs : M'.map Prod.fst = (L2.take k').map Prod.fst) (hk : M'.length = k') : LSk w nm a n c L2 k' v' M' (w4.setCell ⟨w.heap.size + 2, 1, none⟩ v') := by
  subst hM
  have hbig := h.big
  have hsz := hb.size
  have i1 := h.its.below hb
  have i2 := i1.app hq (fun k hk => by
    rcases hk with hk | ⟨p, hp, hk⟩
    · have := own_lt h.its.row k hk; omega
    · have := own_lt (h.its.nums p hp) k hk; omega) (by omega) ho ht
  have hg : ∃ row, w2.grownBy w4 row ∧ ∀ k, row = some k → w.heap.size + 3 ≤ k := by
    rcases ht with ⟨g, cap, e, -, hg⟩ | ⟨cap, -, hg⟩
    · refine ⟨_, hg, fun k hk => ?_⟩
      cases hk
      exact own_row h.its.row g (by rw [e]; rfl)
    · exact ⟨_, hg, fun k hk => by cases hk⟩
  obtain ⟨row, hg, hrow⟩ := hg
  have ne : ∀ d, d < w.heap.size + 3 → some d ≠ row := fun d hd e => by have := hrow d e.symm; omega
  have b3 := ((h.b3.below hb).grown hg (ne _ (by omega))).set 1 v'
  refine ⟨((h.b1.below hb).grown hg (ne _ (by omega))).other (by omega) _, ((h.b2.below hb).grown hg (ne _ (by omega))).other (by omega) _, b3, i2.put (by omega), hs, hk, ?_, ?_⟩
  · have h1 : Below w.heap.size w w2 := h.bel.trans (hb.mono h.bel.size)
    exact (below_grownO h1 hg (fun k hk => by have := hrow k hk; omega) h1.size).setCell (p := ⟨w.heap.size + 2, 1, none⟩) (by show w.heap.size ≤ w.heap.size + 2; omega) _
  · have := hg.size
    simp
    omega
theorem At.block8 {w w' : World} {a : Option Addr} {zs : List Int} (h : At w a zs) (hb : ∀ x, a = some x → w'.heap[x.block]? = w.heap[x.block]?) : At w' a zs := by
  rcases h with h | ⟨b, off, rfl, hc⟩
  · exact .inl h
  · refine .inr ⟨b, off, rfl, fun k hk => ?_⟩
    rw [World.cell?_of_block (w := w) (w' := w') (a := ⟨b, off + k, none⟩) (hb ⟨b, off, none⟩ rfl)]
    exact hc k hk
/-- Items whose numbers have the marks behind them. -/
def LM (B : Nat) (wr : World) (M : List (Itm × Value)) : Prop := ∀ p ∈ M, ∃ g, B ≤ g ∧ g < wr.heap.size ∧ p.2 = .slice (some ⟨g, 0, none⟩) p.1.nums.length (p.1.nums.length + 4) ∧ At wr (some ⟨g, 0, none⟩) (p.1.nums ++ [-7770777, -7770777, -7770777, -7770777])
theorem LM.set {B : Nat} {wr : World} {M : List (Itm × Value)} (h : LM B wr M) {b : Nat} (hb : b < B) (k : Nat) (u : Value) : LM B (wr.setCell ⟨b, k, none⟩ u) M := fun p hp => by
  obtain ⟨g, h1, h2, h3, h4⟩ := h p hp
  exact ⟨g, h1, by rw [World.size_setCell]; exact h2, h3, h4.block8 fun x hx => by cases hx; exact Below.heap_setCell _ _ _ _ (by show g ≠ b; omega)⟩
theorem LM.below {B : Nat} {w w' : World} {M : List (Itm × Value)} (h : LM B w M) (hb : Below w.heap.size w w') : LM B w' M := fun p hp => by
  obtain ⟨g, h1, h2, h3, h4⟩ := h p hp
  exact ⟨g, h1, Nat.lt_of_lt_of_le h2 hb.size, h3, h4.below hb⟩
theorem LM.go {w nm a n c L k v M wr} (h : LSk w nm a n c L k v M wr) (hm : LM (w.heap.size + 3) wr M) {w2 w4 : World} {v' : Value} (hb : Below wr.heap.size wr w2)
    (ht : (∃ g cap, v = .slice (some ⟨g, 0, none⟩) M.length cap ∧ v' = .slice (some ⟨g, 0, none⟩) (M.length + 1) cap ∧ w2.grownBy w4 (some g)) ∨ (∃ cap, v' = .slice (some ⟨w2.heap.size, 0, none⟩) (M.length + 1) cap ∧ w2.grownBy w4 none)) : LM (w.heap.size + 3) (w4.setCell ⟨w.heap.size + 2, 1, none⟩ v') M := by
  refine LM.set (fun p hp => ?_) (by omega) _ _
  obtain ⟨g, h1, h2, h3, h4⟩ := (hm.below hb) p hp
  have hoff := h.its.off p hp g (by rw [h3]; rfl)
  have key : w4.heap[g]? = w2.heap[g]? ∧ w2.heap.size ≤ w4.heap.size := by
    rcases ht with ⟨g', cap, e, -, hg⟩ | ⟨cap, -, hg⟩
    · exact ⟨hg.block g h2 (fun e2 => hoff (by rw [e]; exact e2.symm)), hg.size⟩
    · exact ⟨hg.block g h2 (fun e2 => by cases e2), hg.size⟩
  exact ⟨g, h1, Nat.lt_of_lt_of_le h2 key.2, h3, h4.block8 fun x hx => by cases hx; exact key.1⟩
theorem LM.put {w nm a n c L k v M wr} (h : LSk w nm a n c L k v M wr) (hm : LM (w.heap.size + 3) wr M) {w2 w4 : World} {x : Itm} {g : Nat} {v' : Value} (hb : Below wr.heap.size wr w2) (hg : wr.heap.size ≤ g) (hlt : g < w2.heap.size) (hat : At w2 (some ⟨g, 0, none⟩) (x.nums ++ [-7770777, -7770777, -7770777, -7770777]))
    (ht : (∃ g cap, v = .slice (some ⟨g, 0, none⟩) M.length cap ∧ v' = .slice (some ⟨g, 0, none⟩) (M.length + 1) cap ∧ w2.grownBy w4 (some g)) ∨ (∃ cap, v' = .slice (some ⟨w2.heap.size, 0, none⟩) (M.length + 1) cap ∧ w2.grownBy w4 none)) : LM (w.heap.size + 3) (w4.setCell ⟨w.heap.size + 2, 1, none⟩ v') (M ++ [(x, .slice (some ⟨g, 0, none⟩) x.nums.length (x.nums.length + 4))]) := by
  intro p hp
  rcases List.mem_append.1 hp with hp | hp
  · exact LM.go h hm hb ht p hp
  · rw [List.mem_singleton] at hp
    subst hp
    have hbig := h.big
    have key : w4.heap[g]? = w2.heap[g]? ∧ w2.heap.size ≤ w4.heap.size := by
      rcases ht with ⟨g', cap, e, -, hgg⟩ | ⟨cap, -, hgg⟩
      · exact ⟨hgg.block g hlt (fun e2 => by
          have h1 := own_lt h.its.row g' (by rw [e]; rfl)
          have h2 := Option.some.inj e2
          omega), hgg.size⟩
      · exact ⟨hgg.block g hlt (fun e2 => by cases e2), hgg.size⟩
    exact ⟨g, by omega, by rw [World.size_setCell]; exact Nat.lt_of_lt_of_le hlt key.2, rfl, (hat.block8 fun y hy => by cases hy; exact key.1).block8 fun y hy => by cases hy; exact Below.heap_setCell _ _ _ _ (by show g ≠ w.heap.size + 2; omega)⟩
def NewC (B : Nat) (T : TypeId) (cs : Array Value) (u : World) (v : Value) : Prop := ∃ xb, v = .pointer (some ⟨xb, 0, none⟩) ∧ B ≤ xb ∧ BlkA T xb u cs
theorem NewC.later {B : Nat} {T : TypeId} {cs : Array Value} {u u' : World} {v : Value} (h : NewC B T cs u v) (hb : Below u.heap.size u u') : NewC B T cs u' v := by
  obtain ⟨xb, h1, h2, h3⟩ := h
  exact ⟨xb, h1, h2, h3.below hb⟩
/-- Rows of numbers stay while a row of items grows. -/
theorem FilS.ints {S : TypeId} {w0 V u : World} {hb : Nat} {c f : Nat} {cs : Array Value} {v : Value} {n : Nat} {xs e : List Value} (h : FilS S w0 V hb 103 c cs v n xs) (ap : AppE (fun _ es => es = e) V w0.heap.size 103 c v n xs S hb f cs u) {r : Value} {ns : List Int} (hI : Ints w0.heap.size V r ns) : Ints w0.heap.size u r ns := by
  obtain ⟨es, w1, u1, z, hD, hbut, hblk⟩ := ap
  have hold := h.old
  refine ownR_keep hI fun k hk => ?_
  have hlt := own_lt hI k hk
  have hge := own_row hI k hk
  have hne : v.ownBlock ≠ some k := fun e => by
    rcases hI.2 with ⟨hv, -⟩ | ⟨g, cap, cur, hv, hg, hh, -⟩
    · rw [hv] at hk; cases hk
    · rw [hv] at hk
      cases hk
      exact own_type h.row (hb := g) (S := 3) (cs := cur) hh (by decide) g e rfl
  exact (hbut.block k (Nat.lt_of_lt_of_le hlt hD.chg.size) (by omega)).trans (hD.chg.block k hlt hne)
end Go.Proofs.YtolpelfdhcccnaaGreatDoor
