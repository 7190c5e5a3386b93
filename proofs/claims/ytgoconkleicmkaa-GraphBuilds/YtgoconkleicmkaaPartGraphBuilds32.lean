/- Texts of one chain. -/
import Derived.Test.YtgoconkleicmkaaPartQ
import Derived.Test.YtgoconkleicmkaaPartGraphBuilds31
import Derived.Test.YtgoconkleicmkaaPartGraphBuilds22
import Derived.Test.YtgoconkleicmkaaPartGraphBuilds25
import Derived.Test.YtgoconkleicmkaaPartGraphBuilds12
import Derived.Test.YtgoconkleicmkaaPartGraphBuilds8
import Derived.Test.YtgoconkleicmkaaPartGraphBuilds30
import Derived.Deep.SlicePairs
import Derived.SizedLaws
set_option maxRecDepth 100000
set_option maxHeartbeats 16000000
namespace Go.Proofs.Ytgoconkleicmkaa
open Go.ChangeShapes Go.WideShapes Go.ChangeAt Go.RowKit
theorem lQ {f : Nat -> Int × Nat} {k : Nat} : ∀ (n i : Nat), (∀ j, i <= j -> j < i + n -> (f j).1 = 0) -> yY n i f k = bC
 | 0, _, _ => rfl
 | n + 1, i, h => by
  have e : yY (n + 1) i f k = if (f i).1 ≠ 0 then ⟨(f i).1, k, i, (f i).2⟩ else yY n (i + 1) f k := rfl
  rw [e, if_neg (fun q => q (h i (Nat.le_refl _) (by omega)))]
  exact lQ n (i + 1) (fun j a b => h j (by omega) (by omega))
theorem rD {f : Nat -> Int × Nat} {k n j : Nat} {R : FL} (hj : j < n) (h : (f j).1 ≠ 0) (ha : ∀ m, m < j -> (f m).1 = 0) : (if (yY n 0 f k).code ≠ 0 then yY n 0 f k else R) = ⟨(f j).1, k, j, (f j).2⟩ := by
 have e := oN (f := f) (k := k) n 0 j (Nat.zero_le _) (by omega) h (fun m _ b => ha m b)
 rw [e, if_pos h]
theorem nC {f : Nat -> Int × Nat} {k n : Nat} {R : FL} (ha : ∀ m, m < n -> (f m).1 = 0) : (if (yY n 0 f k).code ≠ 0 then yY n 0 f k else R) = R := by
 rw [if_neg (fun q => q (vX n 0 (fun j _ b => ha j (by omega))))]
def fS5 (g : GG) : FL := yY g.A.length 0 (wF g) 1
def fS4 (g : GG) : FL := if (yY g.outs.length 0 (wA g) 4).code ≠ 0 then yY g.outs.length 0 (wA g) 4 else fS5 g
def fS3 (g : GG) : FL := if (yY g.ins.length 0 (qG g) 3).code ≠ 0 then yY g.ins.length 0 (qG g) 3 else fS4 g
def fS2 (g : GG) : FL := if (yY g.E.length 0 (xW g) 2).code ≠ 0 then yY g.E.length 0 (xW g) 2 else fS3 g
def UY (g : GG) : FL := if (yY g.A.length 0 (fun i => (yR g i, 0)) 1).code ≠ 0 then yY g.A.length 0 (fun i => (yR g i, 0)) 1 else fS2 g
theorem oF (g : GG) : xQ g = if (xD g).code ≠ 0 then xD g else UY g := rfl
theorem oE (g : GG) : xD g = if yM g.name = false then ⟨82, 0, 0, 0⟩ else if g.A.length = 0 then ⟨80, 0, 0, 0⟩ else sI g := rfl
theorem bS {g : GG} (h : yM g.name = false) : xQ g = ⟨82, 0, 0, 0⟩ := by rw [oF, oE, if_pos h]; rfl
theorem eL {g : GG} (h : yM g.name = true) (h0 : g.A.length = 0) : xQ g = ⟨80, 0, 0, 0⟩ := by
 have e : xD g = ⟨80, 0, 0, 0⟩ := by rw [oE, h, if_neg (by decide), if_pos h0]
 rw [oF, e]; rfl
theorem bR {g : GG} (h : yM g.name = true) (h0 : g.A.length ≠ 0) : xQ g = if (sI g).code ≠ 0 then sI g else UY g := by
 have e : xD g = sI g := by rw [oE, h, if_neg (by decide), if_neg h0]
 rw [oF, e]
def lP (w : World) (gv : Array Value) (u : World) : Prop := qX w gv u /\ zN 57 (w.heap.size + 1) u #[.int .i64 0, .int .u8 0, .int .i64 0, .int .i64 0]
theorem lP.low {w u : World} {gv : Array Value} (h : lP w gv u) : Below w.heap.size w u := h.1.2
theorem lP.later {w u u' : World} {gv : Array Value} (h : lP w gv u) (hb : Below u.heap.size u u') : lP w gv u' := ⟨h.1.later hb, h.2.below hb⟩
theorem YQ (w : World) (gv : Array Value) : lP w gv ((w.alloc (.cells gv 31)).alloc (.cells #[.int .i64 0, .int .u8 0, .int .i64 0, .int .i64 0] 57)) := by
 refine ⟨(vP w gv).later ((Below.refl _ _).alloc (Nat.le_refl _) _), ?_⟩
 have h3 := zU 57 (w.alloc (.cells gv 31)) #[.int .i64 0, .int .u8 0, .int .i64 0, .int .i64 0]
 rw [World.size_alloc] at h3
 exact h3
theorem bQ (g : GG) (a1 a2 a3 a4 : Option Addr) (c1 c2 c3 c4 : Nat) (w : World) (h : sH w a1 a2 a3 a4 g) :
 Calls Try.prog 20 #[.agg #[.string (zW g.name), .slice a1 g.A.length c1, .slice a2 g.E.length c2, .slice a3 g.ins.length c3, .slice a4 g.outs.length c4]] w fun e w' => e = .returned (wV (xQ g)) /\ Below w.heap.size w w' := by
 have HG := zZ h
 have n1 : (g.A.length : Int) <= 1000000000000000 := by have := h.l1; omega
 have n2 : (g.E.length : Int) <= 1000000000000000 := by have := h.l2; omega
 have n3 : (g.ins.length : Int) <= 1000000000000000 := by have := h.l3; omega
 have n4 : (g.outs.length : Int) <= 1000000000000000 := by have := h.l4; omega
 have RN : Hid (∀ U, Calls Try.prog 48 #[.string (zW g.name)] U fun e w' => e = .returned (.bool (yM g.name)) /\ U = w') := fun U => rE _ U
 have MN0 : ∀ U, Calls Try.prog 49 #[.agg #[.string (zW g.name), .slice a1 g.A.length c1, .slice a2 g.E.length c2, .slice a3 g.ins.length c3, .slice a4 g.outs.length c4]] U fun e w' => e = .returned (wV (sI g)) /\ Below U.heap.size U w' := fun U => bT g a1 a2 a3 a4 c1 c2 c3 c4 U h.l1 h.l2 h.l3 h.l4
 have Cactor : Hid (∀ U (k : Nat), Below w.heap.size w U -> k < g.A.length -> Calls Try.prog 50 #[.agg #[.string (zW g.name), .slice a1 g.A.length c1, .slice a2 g.E.length c2, .slice a3 g.ins.length c3, .slice a4 g.outs.length c4], .int .i64 (k : Int)] U fun e w' => e = .returned (.int .i64 (yR g k)) /\ Below U.heap.size U w') := fun U k hb hk => eN g a1 a2 a3 a4 c1 c2 c3 c4 k U (HG.out.below hb) hk
 have Cedge : Hid (∀ U (k : Nat), Below w.heap.size w U -> k < g.E.length -> Calls Try.prog 51 #[.agg #[.string (zW g.name), .slice a1 g.A.length c1, .slice a2 g.E.length c2, .slice a3 g.ins.length c3, .slice a4 g.outs.length c4], .int .i64 (k : Int)] U fun e w' => e = .returned (.tuple #[.int .i64 (xW g k).1, .int .i64 ((xW g k).2 : Int)]) /\ Below U.heap.size U w') := fun U k hb hk => bV g a1 a2 a3 a4 c1 c2 c3 c4 k U (HG.out.below hb) hk
 have Cin : Hid (∀ U (k : Nat), Below w.heap.size w U -> k < g.ins.length -> Calls Try.prog 52 #[.agg #[.string (zW g.name), .slice a1 g.A.length c1, .slice a2 g.E.length c2, .slice a3 g.ins.length c3, .slice a4 g.outs.length c4], .int .i64 (k : Int)] U fun e w' => e = .returned (.tuple #[.int .i64 (qG g k).1, .int .i64 ((qG g k).2 : Int)]) /\ Below U.heap.size U w') := fun U k hb hk => VV g a1 a2 a3 a4 c1 c2 c3 c4 k U (HG.out.below hb) hk
 have Cout : Hid (∀ U (k : Nat), Below w.heap.size w U -> k < g.outs.length -> Calls Try.prog 53 #[.agg #[.string (zW g.name), .slice a1 g.A.length c1, .slice a2 g.E.length c2, .slice a3 g.ins.length c3, .slice a4 g.outs.length c4], .int .i64 (k : Int)] U fun e w' => e = .returned (.tuple #[.int .i64 (wA g k).1, .int .i64 ((wA g k).2 : Int)]) /\ Below U.heap.size U w') := fun U k hb hk => YT g a1 a2 a3 a4 c1 c2 c3 c4 k U (HG.out.below hb) hk
 have Copen : Hid (∀ U (k : Nat), Below w.heap.size w U -> k < g.A.length -> Calls Try.prog 54 #[.agg #[.string (zW g.name), .slice a1 g.A.length c1, .slice a2 g.E.length c2, .slice a3 g.ins.length c3, .slice a4 g.outs.length c4], .int .i64 (k : Int)] U fun e w' => e = .returned (.bool (tZ g k)) /\ Below U.heap.size U w') := fun U k hb hk => bU g a1 a2 a3 a4 c1 c2 c3 c4 k U (HG.out.below hb) hk
 have B0 := zZ (YQ w #[.string (zW g.name), .slice a1 g.A.length c1, .slice a2 g.E.length c2, .slice a3 g.ins.length c3, .slice a4 g.outs.length c4])
 have FN : Hid (yM g.name = false -> xQ g = ⟨82, 0, 0, 0⟩) := bS
 have FE : Hid (yM g.name = true -> g.A.length = 0 -> xQ g = ⟨80, 0, 0, 0⟩) := eL
 have FM : Hid (yM g.name = true -> g.A.length ≠ 0 -> xQ g = if (sI g).code ≠ 0 then sI g else UY g) := bR
 clear h HG
 generalize yM g.name = q0 at *
 cases q0
 ·have F0 : Hid (xQ g = ⟨82, 0, 0, 0⟩) := FN.out rfl
  clear FN FE FM MN0
  go_enter Try.func20, Try.ntmps20
  go_upto_region 1 with fail
  generalize (w.alloc (.cells #[.string (zW g.name), .slice a1 g.A.length c1, .slice a2 g.E.length c2, .slice a3 g.ins.length c3, .slice a4 g.outs.length c4] 31)).alloc (.cells #[.int .i64 0, .int .u8 0, .int .i64 0, .int .i64 0] 57) = W0 at *
  have g0 : W0.cell? ⟨w.heap.size, 0, none⟩ = some (.string (zW g.name)) := B0.out.1.1.cell rfl
  have g1 : W0.cell? ⟨w.heap.size, 1, none⟩ = some (.slice a1 g.A.length c1) := B0.out.1.1.cell rfl
  have g2 : W0.cell? ⟨w.heap.size, 2, none⟩ = some (.slice a2 g.E.length c2) := B0.out.1.1.cell rfl
  have g3 : W0.cell? ⟨w.heap.size, 3, none⟩ = some (.slice a3 g.ins.length c3) := B0.out.1.1.cell rfl
  have g4 : W0.cell? ⟨w.heap.size, 4, none⟩ = some (.slice a4 g.outs.length c4) := B0.out.1.1.cell rfl
  go_wp2_with (first
   | (refine zM _ rfl 57 (.tmp 2) (.tmp 20) rfl rfl (w.heap.size + 1) 57 _ _ rfl rfl B0.out.2 pA rfl rfl ?_; intro w9 hN hU; have N9 := zZ hN; have U9 := zZ hU; clear hN hU)
   | (go_at_call 48; (with_reducible refine (RN.out _).mono ?_); rintro e w' ⟨rfl, rfl⟩))
  have z0 : w9.cell? ⟨w.heap.size + 1, 0, none⟩ = some (.int .i64 82) := N9.out.cell rfl
  have z1 : w9.cell? ⟨w.heap.size + 1, 1, none⟩ = some (.int .u8 0) := N9.out.cell rfl
  have z2 : w9.cell? ⟨w.heap.size + 1, 2, none⟩ = some (.int .i64 0) := N9.out.cell rfl
  have z3 : w9.cell? ⟨w.heap.size + 1, 3, none⟩ = some (.int .i64 0) := N9.out.cell rfl
  refine bodyPost_ret (v := .agg #[.int .i64 82, .int .u8 0, .int .i64 0, .int .i64 0]) (by simp [results, Try.results20, go_sem, z0, z1, z2, z3]) rfl ?_
  exact ⟨by rw [F0.out]; rfl, B0.out.low.trans (U9.out.below (Nat.le_succ _) B0.out.low.size)⟩
 by_cases hz : g.A.length = 0
 ·have F0 : Hid (xQ g = ⟨80, 0, 0, 0⟩) := FE.out rfl hz
  have j0 : ((g.A.length : Int) == 0) = true := by simpa using hz
  clear FN FE FM MN0 hz
  go_enter Try.func20, Try.ntmps20
  go_upto_region 1 with fail
  generalize (w.alloc (.cells #[.string (zW g.name), .slice a1 g.A.length c1, .slice a2 g.E.length c2, .slice a3 g.ins.length c3, .slice a4 g.outs.length c4] 31)).alloc (.cells #[.int .i64 0, .int .u8 0, .int .i64 0, .int .i64 0] 57) = W0 at *
  have g0 : W0.cell? ⟨w.heap.size, 0, none⟩ = some (.string (zW g.name)) := B0.out.1.1.cell rfl
  have g1 : W0.cell? ⟨w.heap.size, 1, none⟩ = some (.slice a1 g.A.length c1) := B0.out.1.1.cell rfl
  have g2 : W0.cell? ⟨w.heap.size, 2, none⟩ = some (.slice a2 g.E.length c2) := B0.out.1.1.cell rfl
  have g3 : W0.cell? ⟨w.heap.size, 3, none⟩ = some (.slice a3 g.ins.length c3) := B0.out.1.1.cell rfl
  have g4 : W0.cell? ⟨w.heap.size, 4, none⟩ = some (.slice a4 g.outs.length c4) := B0.out.1.1.cell rfl
  go_wp2_with (first
   | (refine zM _ rfl 57 (.tmp 2) (.tmp 25) rfl rfl (w.heap.size + 1) 57 _ _ rfl rfl B0.out.2 pA rfl rfl ?_; intro w9 hN hU; have N9 := zZ hN; have U9 := zZ hU; clear hN hU)
   | (go_at_call 48; (with_reducible refine (RN.out _).mono ?_); rintro e w' ⟨rfl, rfl⟩))
  have z0 : w9.cell? ⟨w.heap.size + 1, 0, none⟩ = some (.int .i64 80) := N9.out.cell rfl
  have z1 : w9.cell? ⟨w.heap.size + 1, 1, none⟩ = some (.int .u8 0) := N9.out.cell rfl
  have z2 : w9.cell? ⟨w.heap.size + 1, 2, none⟩ = some (.int .i64 0) := N9.out.cell rfl
  have z3 : w9.cell? ⟨w.heap.size + 1, 3, none⟩ = some (.int .i64 0) := N9.out.cell rfl
  refine bodyPost_ret (v := .agg #[.int .i64 80, .int .u8 0, .int .i64 0, .int .i64 0]) (by simp [results, Try.results20, go_sem, z0, z1, z2, z3]) rfl ?_
  exact ⟨by rw [F0.out]; rfl, B0.out.low.trans (U9.out.below (Nat.le_succ _) B0.out.low.size)⟩
 have j0 : ((g.A.length : Int) == 0) = false := by simpa using hz
 have F1 : Hid (xQ g = if (sI g).code ≠ 0 then sI g else UY g) := FM.out rfl hz
 obtain ⟨mf, hmf⟩ : ∃ q, sI g = q := ⟨_, rfl⟩
 rw [hmf] at F1 MN0
 clear hmf FN FE FM hz
 obtain ⟨mc, mk, mn, ms⟩ := mf
 have MN : Hid (∀ U, Calls Try.prog 49 #[.agg #[.string (zW g.name), .slice a1 g.A.length c1, .slice a2 g.E.length c2, .slice a3 g.ins.length c3, .slice a4 g.outs.length c4]] U fun e w' => e = .returned (.agg #[.int .i64 mc, .int .u8 (mk : Int), .int .i64 (mn : Int), .int .i64 (ms : Int)]) /\ Below U.heap.size U w') := MN0
 clear MN0
 have FY : Hid (mc ≠ 0 -> xQ g = ⟨mc, mk, mn, ms⟩) := fun e => by rw [F1.out, if_pos e]
 have FO : Hid (mc = 0 -> xQ g = UY g) := fun e => by rw [F1.out, if_neg (fun q => q e)]
 clear F1
 go_enter Try.func20, Try.ntmps20
 go_upto_region 1 with fail
 generalize (w.alloc (.cells #[.string (zW g.name), .slice a1 g.A.length c1, .slice a2 g.E.length c2, .slice a3 g.ins.length c3, .slice a4 g.outs.length c4] 31)).alloc (.cells #[.int .i64 0, .int .u8 0, .int .i64 0, .int .i64 0] 57) = W0 at *
 have g0 : W0.cell? ⟨w.heap.size, 0, none⟩ = some (.string (zW g.name)) := B0.out.1.1.cell rfl
 have g1 : W0.cell? ⟨w.heap.size, 1, none⟩ = some (.slice a1 g.A.length c1) := B0.out.1.1.cell rfl
 have g2 : W0.cell? ⟨w.heap.size, 2, none⟩ = some (.slice a2 g.E.length c2) := B0.out.1.1.cell rfl
 have g3 : W0.cell? ⟨w.heap.size, 3, none⟩ = some (.slice a3 g.ins.length c3) := B0.out.1.1.cell rfl
 have g4 : W0.cell? ⟨w.heap.size, 4, none⟩ = some (.slice a4 g.outs.length c4) := B0.out.1.1.cell rfl
 go_upto_region 6 with (first
  | (go_at_call 49; (with_reducible refine (MN.out _).mono ?_); rintro e w1 ⟨rfl, b1⟩; have B1 := zZ (B0.out.later b1); clear b1)
  | (go_at_call 48; (with_reducible refine (RN.out _).mono ?_); rintro e w' ⟨rfl, rfl⟩))
 have BX := zZ (zU 57 w1 #[.int .i64 mc, .int .u8 (mk : Int), .int .i64 (mn : Int), .int .i64 (ms : Int)])
 have B2 := zZ (B1.out.later ((Below.refl _ _).alloc (Nat.le_refl _) (.cells #[.int .i64 mc, .int .u8 (mk : Int), .int .i64 (mn : Int), .int .i64 (ms : Int)] 57)))
 generalize w1.alloc (.cells #[.int .i64 mc, .int .u8 (mk : Int), .int .i64 (mn : Int), .int .i64 (ms : Int)] 57) = V at *
 have m0 := BX.out.cell (k := 0) rfl
 have m1 := BX.out.cell (k := 1) rfl
 have m2 := BX.out.cell (k := 2) rfl
 have m3 := BX.out.cell (k := 3) rfl
 clear g0 g1 g2 g3 g4 BX MN RN j0
 by_cases hm : mc = 0
 ·subst hm
  have FS1 : Hid (xQ g = UY g) := FO.out rfl
  clear FO FY
  go_wp2
  clear m0 m1 m2 m3
  go_loopg [4] g.A.length (fun gk v wr => ∃ k : Nat, k <= g.A.length /\ gk = g.A.length - k /\ v = .int .i64 (k : Int) /\ lP w #[.string (zW g.name), .slice a1 g.A.length c1, .slice a2 g.E.length c2, .slice a3 g.ins.length c3, .slice a4 g.outs.length c4] wr /\ ∀ j : Nat, j < k -> ((fun i => (yR g i, 0)) j).1 = 0)
  case atStart => exact ⟨0, Nat.zero_le _, rfl, rfl, B2.out, fun j hj => absurd hj (Nat.not_lt_zero _)⟩
  case round =>
   clear B2 B1 B0
   obtain ⟨k, hk, rfl, rfl, hB, hall⟩ := hrel
   have HB := zZ hB
   have HAL := zZ hall
   have g0 : wr.cell? ⟨w.heap.size, 0, none⟩ = some (.string (zW g.name)) := hB.1.1.cell rfl
   have g1 : wr.cell? ⟨w.heap.size, 1, none⟩ = some (.slice a1 g.A.length c1) := hB.1.1.cell rfl
   have g2 : wr.cell? ⟨w.heap.size, 2, none⟩ = some (.slice a2 g.E.length c2) := hB.1.1.cell rfl
   have g3 : wr.cell? ⟨w.heap.size, 3, none⟩ = some (.slice a3 g.ins.length c3) := hB.1.1.cell rfl
   have g4 : wr.cell? ⟨w.heap.size, 4, none⟩ = some (.slice a4 g.outs.length c4) := hB.1.1.cell rfl
   clear hB hall
   by_cases hlt : k < g.A.length
   ·have hki : (k : Int) < (g.A.length : Int) := by omega
    have HNO : Hid (((fun i => (yR g i, 0)) k).1 = 0 -> ∀ j : Nat, j < k + 1 -> ((fun i => (yR g i, 0)) j).1 = 0) := fun e j hj => by
     by_cases q : j < k
     ·exact HAL.out j q
     rw [show j = k by omega]; exact e
    have CK := zZ (Cactor.out wr k HB.out.low hlt)
    have HYES : Hid (((fun i => (yR g i, 0)) k).1 ≠ 0 -> xQ g = ⟨((fun i => (yR g i, 0)) k).1, 1, k, ((fun i => (yR g i, 0)) k).2⟩) := fun e => by rw [FS1.out]; unfold UY; rw [rD hlt e HAL.out]
    obtain ⟨q1, hq1⟩ : ∃ q, yR g k = q := ⟨_, rfl⟩
    simp only [hq1] at HYES HNO CK
    clear hq1
    by_cases hc : q1 = 0
    ·subst hc
     clear HYES
     go_wp2_with (go_at_call 50; (with_reducible refine CK.out.mono ?_); rintro e w3 ⟨rfl, b3⟩; have B3 := zZ (HB.out.later b3); clear b3)
     go_roundg (g.A.length - (k + 1))
     case measure => omega
     case rel => exact ⟨k + 1, by omega, rfl, by go_num, B3.out, HNO.out (by trivial)⟩
    have hc2 : (q1 != 0) = true := by simpa using hc
    have F3 := zZ (HYES.out hc)
    clear HYES HNO
    go_wp2_with (first
     | (refine zM _ rfl 57 (.tmp 2) (.tmp 46) rfl rfl (w.heap.size + 1) 57 _ _ rfl rfl B3.out.2 pA rfl rfl ?_; intro w9 hN hU; have N9 := zZ hN; have U9 := zZ hU; clear hN hU)
     | (go_at_call 50; (with_reducible refine CK.out.mono ?_); rintro e w3 ⟨rfl, b3⟩; have B3 := zZ (HB.out.later b3); clear b3))
    have z0 : w9.cell? ⟨w.heap.size + 1, 0, none⟩ = some (.int .i64 q1) := N9.out.cell rfl
    have z1 : w9.cell? ⟨w.heap.size + 1, 1, none⟩ = some (.int .u8 1) := N9.out.cell rfl
    have z2 : w9.cell? ⟨w.heap.size + 1, 2, none⟩ = some (.int .i64 (k : Int)) := N9.out.cell rfl
    have z3 : w9.cell? ⟨w.heap.size + 1, 3, none⟩ = some (.int .i64 0) := N9.out.cell rfl
    refine bodyPost_ret (v := .agg #[.int .i64 q1, .int .u8 1, .int .i64 (k : Int), .int .i64 0]) (by simp [results, Try.results20, go_sem, z0, z1, z2, z3]) rfl ?_
    exact ⟨by rw [F3.out]; rfl, B3.out.low.trans (U9.out.below (Nat.le_succ _) B3.out.low.size)⟩
   have hki : ¬ (k : Int) < (g.A.length : Int) := by omega
   have FS2 : Hid (xQ g = fS2 g) := by show _ = _; rw [FS1.out]; unfold UY; rw [nC (fun m b => HAL.out m (by omega))]
   clear HAL hlt hk FS1
   go_wp2
   clear g0 g1 g2 g3 g4
   go_loopg [6] g.E.length (fun gk v wr => ∃ k : Nat, k <= g.E.length /\ gk = g.E.length - k /\ v = .int .i64 (k : Int) /\ lP w #[.string (zW g.name), .slice a1 g.A.length c1, .slice a2 g.E.length c2, .slice a3 g.ins.length c3, .slice a4 g.outs.length c4] wr /\ ∀ j : Nat, j < k -> ((xW g) j).1 = 0)
   case atStart => exact ⟨0, Nat.zero_le _, rfl, rfl, HB.out, fun j hj => absurd hj (Nat.not_lt_zero _)⟩
   case round =>
    clear HB hki
    obtain ⟨k, hk, rfl, rfl, hB, hall⟩ := hrel
    have HB := zZ hB
    have HAL := zZ hall
    have g0 : wr.cell? ⟨w.heap.size, 0, none⟩ = some (.string (zW g.name)) := hB.1.1.cell rfl
    have g1 : wr.cell? ⟨w.heap.size, 1, none⟩ = some (.slice a1 g.A.length c1) := hB.1.1.cell rfl
    have g2 : wr.cell? ⟨w.heap.size, 2, none⟩ = some (.slice a2 g.E.length c2) := hB.1.1.cell rfl
    have g3 : wr.cell? ⟨w.heap.size, 3, none⟩ = some (.slice a3 g.ins.length c3) := hB.1.1.cell rfl
    have g4 : wr.cell? ⟨w.heap.size, 4, none⟩ = some (.slice a4 g.outs.length c4) := hB.1.1.cell rfl
    clear hB hall
    by_cases hlt : k < g.E.length
    ·have hki : (k : Int) < (g.E.length : Int) := by omega
     have HNO : Hid (((xW g) k).1 = 0 -> ∀ j : Nat, j < k + 1 -> ((xW g) j).1 = 0) := fun e j hj => by
      by_cases q : j < k
      ·exact HAL.out j q
      rw [show j = k by omega]; exact e
     have CK := zZ (Cedge.out wr k HB.out.low hlt)
     have HYES : Hid (((xW g) k).1 ≠ 0 -> xQ g = ⟨((xW g) k).1, 2, k, ((xW g) k).2⟩) := fun e => by rw [FS2.out]; unfold fS2; rw [rD hlt e HAL.out]
     obtain ⟨q1, hq1⟩ : ∃ q, xW g k = q := ⟨_, rfl⟩
     simp only [hq1] at HYES HNO CK
     clear hq1
     obtain ⟨q1, sx⟩ := q1
     simp only at HYES HNO CK
     by_cases hc : q1 = 0
     ·subst hc
      clear HYES
      go_wp2_with (go_at_call 51; (with_reducible refine CK.out.mono ?_); rintro e w3 ⟨rfl, b3⟩; have B3 := zZ (HB.out.later b3); clear b3)
      go_roundg (g.E.length - (k + 1))
      case measure => omega
      case rel => exact ⟨k + 1, by omega, rfl, by go_num, B3.out, HNO.out (by trivial)⟩
     have hc2 : (q1 != 0) = true := by simpa using hc
     have F3 := zZ (HYES.out hc)
     clear HYES HNO
     go_wp2_with (first
      | (refine zM _ rfl 57 (.tmp 2) (.tmp 65) rfl rfl (w.heap.size + 1) 57 _ _ rfl rfl B3.out.2 pA rfl rfl ?_; intro w9 hN hU; have N9 := zZ hN; have U9 := zZ hU; clear hN hU)
      | (go_at_call 51; (with_reducible refine CK.out.mono ?_); rintro e w3 ⟨rfl, b3⟩; have B3 := zZ (HB.out.later b3); clear b3))
     have z0 : w9.cell? ⟨w.heap.size + 1, 0, none⟩ = some (.int .i64 q1) := N9.out.cell rfl
     have z1 : w9.cell? ⟨w.heap.size + 1, 1, none⟩ = some (.int .u8 2) := N9.out.cell rfl
     have z2 : w9.cell? ⟨w.heap.size + 1, 2, none⟩ = some (.int .i64 (k : Int)) := N9.out.cell rfl
     have z3 : w9.cell? ⟨w.heap.size + 1, 3, none⟩ = some (.int .i64 (sx : Int)) := N9.out.cell rfl
     refine bodyPost_ret (v := .agg #[.int .i64 q1, .int .u8 2, .int .i64 (k : Int), .int .i64 (sx : Int)]) (by simp [results, Try.results20, go_sem, z0, z1, z2, z3]) rfl ?_
     exact ⟨by rw [F3.out]; rfl, B3.out.low.trans (U9.out.below (Nat.le_succ _) B3.out.low.size)⟩
    have hki : ¬ (k : Int) < (g.E.length : Int) := by omega
    have FS3 : Hid (xQ g = fS3 g) := by show _ = _; rw [FS2.out]; unfold fS2; rw [nC (fun m b => HAL.out m (by omega))]
    clear HAL hlt hk FS2
    go_wp2
    clear g0 g1 g2 g3 g4
    go_loopg [9] g.ins.length (fun gk v wr => ∃ k : Nat, k <= g.ins.length /\ gk = g.ins.length - k /\ v = .int .i64 (k : Int) /\ lP w #[.string (zW g.name), .slice a1 g.A.length c1, .slice a2 g.E.length c2, .slice a3 g.ins.length c3, .slice a4 g.outs.length c4] wr /\ ∀ j : Nat, j < k -> ((qG g) j).1 = 0)
    case atStart => exact ⟨0, Nat.zero_le _, rfl, rfl, HB.out, fun j hj => absurd hj (Nat.not_lt_zero _)⟩
    case round =>
     clear HB hki
     obtain ⟨k, hk, rfl, rfl, hB, hall⟩ := hrel
     have HB := zZ hB
     have HAL := zZ hall
     have g0 : wr.cell? ⟨w.heap.size, 0, none⟩ = some (.string (zW g.name)) := hB.1.1.cell rfl
     have g1 : wr.cell? ⟨w.heap.size, 1, none⟩ = some (.slice a1 g.A.length c1) := hB.1.1.cell rfl
     have g2 : wr.cell? ⟨w.heap.size, 2, none⟩ = some (.slice a2 g.E.length c2) := hB.1.1.cell rfl
     have g3 : wr.cell? ⟨w.heap.size, 3, none⟩ = some (.slice a3 g.ins.length c3) := hB.1.1.cell rfl
     have g4 : wr.cell? ⟨w.heap.size, 4, none⟩ = some (.slice a4 g.outs.length c4) := hB.1.1.cell rfl
     clear hB hall
     by_cases hlt : k < g.ins.length
     ·have hki : (k : Int) < (g.ins.length : Int) := by omega
      have HNO : Hid (((qG g) k).1 = 0 -> ∀ j : Nat, j < k + 1 -> ((qG g) j).1 = 0) := fun e j hj => by
       by_cases q : j < k
       ·exact HAL.out j q
       rw [show j = k by omega]; exact e
      have CK := zZ (Cin.out wr k HB.out.low hlt)
      have HYES : Hid (((qG g) k).1 ≠ 0 -> xQ g = ⟨((qG g) k).1, 3, k, ((qG g) k).2⟩) := fun e => by rw [FS3.out]; unfold fS3; rw [rD hlt e HAL.out]
      obtain ⟨q1, hq1⟩ : ∃ q, qG g k = q := ⟨_, rfl⟩
      simp only [hq1] at HYES HNO CK
      clear hq1
      obtain ⟨q1, sx⟩ := q1
      simp only at HYES HNO CK
      by_cases hc : q1 = 0
      ·subst hc
       clear HYES
       go_wp2_with (go_at_call 52; (with_reducible refine CK.out.mono ?_); rintro e w3 ⟨rfl, b3⟩; have B3 := zZ (HB.out.later b3); clear b3)
       go_roundg (g.ins.length - (k + 1))
       case measure => omega
       case rel => exact ⟨k + 1, by omega, rfl, by go_num, B3.out, HNO.out (by trivial)⟩
      have hc2 : (q1 != 0) = true := by simpa using hc
      have F3 := zZ (HYES.out hc)
      clear HYES HNO
      go_wp2_with (first
       | (refine zM _ rfl 57 (.tmp 2) (.tmp 84) rfl rfl (w.heap.size + 1) 57 _ _ rfl rfl B3.out.2 pA rfl rfl ?_; intro w9 hN hU; have N9 := zZ hN; have U9 := zZ hU; clear hN hU)
       | (go_at_call 52; (with_reducible refine CK.out.mono ?_); rintro e w3 ⟨rfl, b3⟩; have B3 := zZ (HB.out.later b3); clear b3))
      have z0 : w9.cell? ⟨w.heap.size + 1, 0, none⟩ = some (.int .i64 q1) := N9.out.cell rfl
      have z1 : w9.cell? ⟨w.heap.size + 1, 1, none⟩ = some (.int .u8 3) := N9.out.cell rfl
      have z2 : w9.cell? ⟨w.heap.size + 1, 2, none⟩ = some (.int .i64 (k : Int)) := N9.out.cell rfl
      have z3 : w9.cell? ⟨w.heap.size + 1, 3, none⟩ = some (.int .i64 (sx : Int)) := N9.out.cell rfl
      refine bodyPost_ret (v := .agg #[.int .i64 q1, .int .u8 3, .int .i64 (k : Int), .int .i64 (sx : Int)]) (by simp [results, Try.results20, go_sem, z0, z1, z2, z3]) rfl ?_
      exact ⟨by rw [F3.out]; rfl, B3.out.low.trans (U9.out.below (Nat.le_succ _) B3.out.low.size)⟩
     have hki : ¬ (k : Int) < (g.ins.length : Int) := by omega
     have FS4 : Hid (xQ g = fS4 g) := by show _ = _; rw [FS3.out]; unfold fS3; rw [nC (fun m b => HAL.out m (by omega))]
     clear HAL hlt hk FS3
     go_wp2
     clear g0 g1 g2 g3 g4
     go_loopg [12] g.outs.length (fun gk v wr => ∃ k : Nat, k <= g.outs.length /\ gk = g.outs.length - k /\ v = .int .i64 (k : Int) /\ lP w #[.string (zW g.name), .slice a1 g.A.length c1, .slice a2 g.E.length c2, .slice a3 g.ins.length c3, .slice a4 g.outs.length c4] wr /\ ∀ j : Nat, j < k -> ((wA g) j).1 = 0)
     case atStart => exact ⟨0, Nat.zero_le _, rfl, rfl, HB.out, fun j hj => absurd hj (Nat.not_lt_zero _)⟩
     case round =>
      clear HB hki
      obtain ⟨k, hk, rfl, rfl, hB, hall⟩ := hrel
      have HB := zZ hB
      have HAL := zZ hall
      have g0 : wr.cell? ⟨w.heap.size, 0, none⟩ = some (.string (zW g.name)) := hB.1.1.cell rfl
      have g1 : wr.cell? ⟨w.heap.size, 1, none⟩ = some (.slice a1 g.A.length c1) := hB.1.1.cell rfl
      have g2 : wr.cell? ⟨w.heap.size, 2, none⟩ = some (.slice a2 g.E.length c2) := hB.1.1.cell rfl
      have g3 : wr.cell? ⟨w.heap.size, 3, none⟩ = some (.slice a3 g.ins.length c3) := hB.1.1.cell rfl
      have g4 : wr.cell? ⟨w.heap.size, 4, none⟩ = some (.slice a4 g.outs.length c4) := hB.1.1.cell rfl
      clear hB hall
      by_cases hlt : k < g.outs.length
      ·have hki : (k : Int) < (g.outs.length : Int) := by omega
       have HNO : Hid (((wA g) k).1 = 0 -> ∀ j : Nat, j < k + 1 -> ((wA g) j).1 = 0) := fun e j hj => by
        by_cases q : j < k
        ·exact HAL.out j q
        rw [show j = k by omega]; exact e
       have CK := zZ (Cout.out wr k HB.out.low hlt)
       have HYES : Hid (((wA g) k).1 ≠ 0 -> xQ g = ⟨((wA g) k).1, 4, k, ((wA g) k).2⟩) := fun e => by rw [FS4.out]; unfold fS4; rw [rD hlt e HAL.out]
       obtain ⟨q1, hq1⟩ : ∃ q, wA g k = q := ⟨_, rfl⟩
       simp only [hq1] at HYES HNO CK
       clear hq1
       obtain ⟨q1, sx⟩ := q1
       simp only at HYES HNO CK
       by_cases hc : q1 = 0
       ·subst hc
        clear HYES
        go_wp2_with (go_at_call 53; (with_reducible refine CK.out.mono ?_); rintro e w3 ⟨rfl, b3⟩; have B3 := zZ (HB.out.later b3); clear b3)
        go_roundg (g.outs.length - (k + 1))
        case measure => omega
        case rel => exact ⟨k + 1, by omega, rfl, by go_num, B3.out, HNO.out (by trivial)⟩
       have hc2 : (q1 != 0) = true := by simpa using hc
       have F3 := zZ (HYES.out hc)
       clear HYES HNO
       go_wp2_with (first
        | (refine zM _ rfl 57 (.tmp 2) (.tmp 103) rfl rfl (w.heap.size + 1) 57 _ _ rfl rfl B3.out.2 pA rfl rfl ?_; intro w9 hN hU; have N9 := zZ hN; have U9 := zZ hU; clear hN hU)
        | (go_at_call 53; (with_reducible refine CK.out.mono ?_); rintro e w3 ⟨rfl, b3⟩; have B3 := zZ (HB.out.later b3); clear b3))
       have z0 : w9.cell? ⟨w.heap.size + 1, 0, none⟩ = some (.int .i64 q1) := N9.out.cell rfl
       have z1 : w9.cell? ⟨w.heap.size + 1, 1, none⟩ = some (.int .u8 4) := N9.out.cell rfl
       have z2 : w9.cell? ⟨w.heap.size + 1, 2, none⟩ = some (.int .i64 (k : Int)) := N9.out.cell rfl
       have z3 : w9.cell? ⟨w.heap.size + 1, 3, none⟩ = some (.int .i64 (sx : Int)) := N9.out.cell rfl
       refine bodyPost_ret (v := .agg #[.int .i64 q1, .int .u8 4, .int .i64 (k : Int), .int .i64 (sx : Int)]) (by simp [results, Try.results20, go_sem, z0, z1, z2, z3]) rfl ?_
       exact ⟨by rw [F3.out]; rfl, B3.out.low.trans (U9.out.below (Nat.le_succ _) B3.out.low.size)⟩
      have hki : ¬ (k : Int) < (g.outs.length : Int) := by omega
      have FS5 : Hid (xQ g = fS5 g) := by show _ = _; rw [FS4.out]; unfold fS4; rw [nC (fun m b => HAL.out m (by omega))]
      clear HAL hlt hk FS4
      go_wp2
      clear g0 g1 g2 g3 g4
      go_loopg [15] g.A.length (fun gk v wr => ∃ k : Nat, k <= g.A.length /\ gk = g.A.length - k /\ v = .int .i64 (k : Int) /\ lP w #[.string (zW g.name), .slice a1 g.A.length c1, .slice a2 g.E.length c2, .slice a3 g.ins.length c3, .slice a4 g.outs.length c4] wr /\ ∀ j : Nat, j < k -> ((wF g) j).1 = 0)
      case atStart => exact ⟨0, Nat.zero_le _, rfl, rfl, HB.out, fun j hj => absurd hj (Nat.not_lt_zero _)⟩
      case round =>
       clear HB hki
       obtain ⟨k, hk, rfl, rfl, hB, hall⟩ := hrel
       have HB := zZ hB
       have HAL := zZ hall
       have g0 : wr.cell? ⟨w.heap.size, 0, none⟩ = some (.string (zW g.name)) := hB.1.1.cell rfl
       have g1 : wr.cell? ⟨w.heap.size, 1, none⟩ = some (.slice a1 g.A.length c1) := hB.1.1.cell rfl
       have g2 : wr.cell? ⟨w.heap.size, 2, none⟩ = some (.slice a2 g.E.length c2) := hB.1.1.cell rfl
       have g3 : wr.cell? ⟨w.heap.size, 3, none⟩ = some (.slice a3 g.ins.length c3) := hB.1.1.cell rfl
       have g4 : wr.cell? ⟨w.heap.size, 4, none⟩ = some (.slice a4 g.outs.length c4) := hB.1.1.cell rfl
       clear hB hall
       by_cases hlt : k < g.A.length
       ·have hki : (k : Int) < (g.A.length : Int) := by omega
        have HNO : Hid (((wF g) k).1 = 0 -> ∀ j : Nat, j < k + 1 -> ((wF g) j).1 = 0) := fun e j hj => by
         by_cases q : j < k
         ·exact HAL.out j q
         rw [show j = k by omega]; exact e
        have CK := zZ (Copen.out wr k HB.out.low hlt)
        have HYES : Hid (tZ g k = true -> xQ g = ⟨87, 1, k, 0⟩) := fun e1 => by
         have e2 : wF g k = (87, 0) := by unfold wF; rw [e1]; rfl
         have e : (wF g k).1 ≠ 0 := by rw [e2]; decide
         rw [FS5.out]; unfold fS5; rw [oN _ 0 k (Nat.zero_le _) (by omega) e (fun m _ b => HAL.out m b), e2]
        have HN2 : Hid (tZ g k = false -> ∀ j : Nat, j < k + 1 -> (wF g j).1 = 0) := fun e1 => HNO.out (by unfold wF; rw [e1]; rfl)
        clear HNO
        obtain ⟨q1, hq1⟩ : ∃ q, tZ g k = q := ⟨_, rfl⟩
        rw [hq1] at HYES HN2 CK
        clear hq1
        cases q1
        ·go_wp2_with (go_at_call 54; (with_reducible refine CK.out.mono ?_); rintro e w3 ⟨rfl, b3⟩; have B3 := zZ (HB.out.later b3); clear b3)
         go_roundg (g.A.length - (k + 1))
         case measure => omega
         case rel => exact ⟨k + 1, by omega, rfl, by go_num, B3.out, HN2.out (by trivial)⟩
        have F3 : Hid (xQ g = ⟨87, 1, k, 0⟩) := HYES.out rfl
        go_wp2_with (first
         | (refine zM _ rfl 57 (.tmp 2) (.tmp 115) rfl rfl (w.heap.size + 1) 57 _ _ rfl rfl B3.out.2 pA rfl rfl ?_; intro w9 hN hU; have N9 := zZ hN; have U9 := zZ hU; clear hN hU)
         | (go_at_call 54; (with_reducible refine CK.out.mono ?_); rintro e w3 ⟨rfl, b3⟩; have B3 := zZ (HB.out.later b3); clear b3))
        have z0 : w9.cell? ⟨w.heap.size + 1, 0, none⟩ = some (.int .i64 87) := N9.out.cell rfl
        have z1 : w9.cell? ⟨w.heap.size + 1, 1, none⟩ = some (.int .u8 1) := N9.out.cell rfl
        have z2 : w9.cell? ⟨w.heap.size + 1, 2, none⟩ = some (.int .i64 (k : Int)) := N9.out.cell rfl
        have z3 : w9.cell? ⟨w.heap.size + 1, 3, none⟩ = some (.int .i64 0) := N9.out.cell rfl
        refine bodyPost_ret (v := .agg #[.int .i64 87, .int .u8 1, .int .i64 (k : Int), .int .i64 0]) (by simp [results, Try.results20, go_sem, z0, z1, z2, z3]) rfl ?_
        exact ⟨by rw [F3.out]; rfl, B3.out.low.trans (U9.out.below (Nat.le_succ _) B3.out.low.size)⟩
       have hki : ¬ (k : Int) < (g.A.length : Int) := by omega
       have F9 : Hid (xQ g = bC) := by show _ = _; rw [FS5.out]; unfold fS5; rw [lQ _ 0 (fun m _ b => HAL.out m (by omega))]
       go_wp2_with (first
        | (refine zM _ rfl 57 (.tmp 2) (.tmp 116) rfl rfl (w.heap.size + 1) 57 _ _ rfl rfl HB.out.2 pA rfl rfl ?_; intro w9 hN hU; have N9 := zZ hN; have U9 := zZ hU; clear hN hU))
       have z0 : w9.cell? ⟨w.heap.size + 1, 0, none⟩ = some (.int .i64 0) := N9.out.cell rfl
       have z1 : w9.cell? ⟨w.heap.size + 1, 1, none⟩ = some (.int .u8 0) := N9.out.cell rfl
       have z2 : w9.cell? ⟨w.heap.size + 1, 2, none⟩ = some (.int .i64 0) := N9.out.cell rfl
       have z3 : w9.cell? ⟨w.heap.size + 1, 3, none⟩ = some (.int .i64 0) := N9.out.cell rfl
       refine bodyPost_ret (v := .agg #[.int .i64 0, .int .u8 0, .int .i64 0, .int .i64 0]) (by simp [results, Try.results20, go_sem, z0, z1, z2, z3]) rfl ?_
       exact ⟨by rw [F9.out]; rfl, HB.out.low.trans (U9.out.below (Nat.le_succ _) HB.out.low.size)⟩
 have hm2 : (mc != 0) = true := by simpa using hm
 have F2 : Hid (xQ g = ⟨mc, mk, mn, ms⟩) := FY.out hm
 clear FO FY
 go_wp2_with (first
  | (refine zM _ rfl 57 (.tmp 2) (.tmp 31) rfl rfl (w.heap.size + 1) 57 _ _ rfl rfl B2.out.2 pA rfl rfl ?_; intro w9 hN hU; have N9 := zZ hN; have U9 := zZ hU; clear hN hU))
 have z0 : w9.cell? ⟨w.heap.size + 1, 0, none⟩ = some (.int .i64 mc) := N9.out.cell rfl
 have z1 : w9.cell? ⟨w.heap.size + 1, 1, none⟩ = some (.int .u8 (mk : Int)) := N9.out.cell rfl
 have z2 : w9.cell? ⟨w.heap.size + 1, 2, none⟩ = some (.int .i64 (mn : Int)) := N9.out.cell rfl
 have z3 : w9.cell? ⟨w.heap.size + 1, 3, none⟩ = some (.int .i64 (ms : Int)) := N9.out.cell rfl
 refine bodyPost_ret (v := .agg #[.int .i64 mc, .int .u8 (mk : Int), .int .i64 (mn : Int), .int .i64 (ms : Int)]) (by simp [results, Try.results20, go_sem, z0, z1, z2, z3]) rfl ?_
 exact ⟨by rw [F2.out]; rfl, B2.out.low.trans (U9.out.below (Nat.le_succ _) B2.out.low.size)⟩
def NuV (V : World) (zs : List Int) (u : World) (v : Value) : Prop := ∃ a c, v = .slice a zs.length c /\ yS V.heap.size u a c zs
theorem NuV.later {V u u' : World} {zs : List Int} {v : Value} (h : NuV V zs u v) (hb : Below u.heap.size u u') : NuV V zs u' v := by
 obtain ⟨a, c, h1, h2⟩ := h
 exact ⟨a, c, h1, h2.later hb⟩
def TO (B : Nat) (T : TypeId) (cs : Array Value) (u : World) (v : Value) : Prop := ∃ xb, v = .pointer (some ⟨xb, 0, none⟩) /\ B <= xb /\ zN T xb u cs
theorem TO.later {B : Nat} {T : TypeId} {cs : Array Value} {u u' : World} {v : Value} (h : TO B T cs u v) (hb : Below u.heap.size u u') : TO B T cs u' v := by
 obtain ⟨xb, h1, h2, h3⟩ := h
 exact ⟨xb, h1, h2, h3.below hb⟩
def pZ (V : World) (mk : Value -> Value) (qn : Nat) (nu : List Int) (u : World) (v : Value) : Prop := ∃ za zc, v = mk (.slice za qn zc) /\ yS V.heap.size u za zc nu
def gE (V : World) (P : Value -> List Value) (qn : Nat) (nu : List Int) (u : World) (v : Value) : Prop := ∃ h za zc, v = .slice (some ⟨h, 0, none⟩) 1 1 /\ (∀ j y, (P (.slice za qn zc))[j]? = some y -> u.cell? ((⟨h, 0, none⟩ : Addr).add j) = some y) /\ yS V.heap.size u za zc nu
theorem pZ.later {V u u' : World} {mk : Value -> Value} {qn : Nat} {nu : List Int} {v : Value} (h : pZ V mk qn nu u v) (hb : Below u.heap.size u u') : pZ V mk qn nu u' v := by
 obtain ⟨za, zc, h1, h2⟩ := h
 exact ⟨za, zc, h1, h2.later hb⟩
theorem gE.later {V u u' : World} {P : Value -> List Value} {qn : Nat} {nu : List Int} {v : Value} (h : gE V P qn nu u v) (hb : Below u.heap.size u u') : gE V P qn nu u' v := by
 obtain ⟨g, za, zc, h1, h2, h3⟩ := h
 exact ⟨g, za, zc, h1, fun j y hy => zX hb (h2 j y hy), h3.later hb⟩
theorem gD {V u : World} {P : Value -> List Value} {qn : Nat} {nu : List Int} (T : TypeId) {za : Option Addr} {zc : Nat} (h : yS V.heap.size u za zc nu) : gE V P qn nu (u.alloc (.cells (P (.slice za qn zc)).toArray T)) (.slice (some ⟨u.heap.size, 0, none⟩) 1 1) :=
 ⟨u.heap.size, za, zc, rfl, vV u T _, h.later ((Below.refl _ _).alloc (Nat.le_refl _) _)⟩
def VT (xn : List UInt8) (tg : Nat) (q : Value) : Value := .agg #[.string (zW xn), .int .u8 (tg : Int), q]
def VR (a b c d : Int) (q : Value) : Value := .agg #[.int .i64 a, .int .i64 b, .int .i64 c, .int .i64 d, q]
def OfE (w : World) (nm : List UInt8) (K : List yO) (e : Ending) (w' : World) : Prop :=
 ∃ v1 v2 v3 v4 As Es Ps Os, e = .returned (.agg #[.string (zW nm), v1, v2, v3, v4]) /\ w'.ownsRow w.heap.size 61 3 v1 As.length (As.flatMap aP) /\ w'.ownsRow w.heap.size 64 5 v2 Es.length (Es.flatMap eP) /\ w'.ownsRow w.heap.size 83 3 v3 Ps.length (Ps.flatMap pP) /\ w'.ownsRow w.heap.size 83 3 v4 Os.length (Os.flatMap pP) /\ oG (xF K) K As Es Ps Os /\ (∀ p ∈ As, YX w.heap.size w' p) /\ (∀ p ∈ Es, YW w.heap.size w' p) /\ Below w.heap.size w w'
theorem VQ (nm : List UInt8) (a : Option Addr) (n c : Nat) (L : List (yO × Value)) (w : World) (hn : L.length = n) (h : nS w a L) (hO : bZ w L) (hl : n <= 2000000) (hk : ∀ p ∈ L, 1 <= p.1.kind /\ p.1.kind <= 4) :
 Calls Try.prog 19 #[.agg #[.string (zW nm), .slice a n c]] w (OfE w nm (L.map Prod.fst)) := by
 have ba := (((Below.refl w.heap.size w).alloc (Nat.le_refl _) (.cells #[.string (zW nm), .slice a n c] 24)).alloc (by simp) (.cells #[.string ⟨#[]⟩, .slice none 0 0, .slice none 0 0, .slice none 0 0, .slice none 0 0] 31)).alloc (by simp; omega) (.cells #[.string (zW nm), .slice none 0 0, .slice none 0 0, .slice none 0 0, .slice none 0 0] 31)
 have sb := ((zU 24 w #[.string (zW nm), .slice a n c]).below ((Below.refl _ _).alloc (Nat.le_refl _) (.cells #[.string ⟨#[]⟩, .slice none 0 0, .slice none 0 0, .slice none 0 0, .slice none 0 0] 31))).below ((Below.refl _ _).alloc (Nat.le_refl _) (.cells #[.string (zW nm), .slice none 0 0, .slice none 0 0, .slice none 0 0, .slice none 0 0] 31))
 have rb : zN 31 (w.heap.size + 1) (((w.alloc (.cells #[.string (zW nm), .slice a n c] 24)).alloc (.cells #[.string ⟨#[]⟩, .slice none 0 0, .slice none 0 0, .slice none 0 0, .slice none 0 0] 31)).alloc (.cells #[.string (zW nm), .slice none 0 0, .slice none 0 0, .slice none 0 0, .slice none 0 0] 31)) #[.string ⟨#[]⟩, .slice none 0 0, .slice none 0 0, .slice none 0 0, .slice none 0 0] := by
  have h3 := (zU 31 (w.alloc (.cells #[.string (zW nm), .slice a n c] 24)) #[.string ⟨#[]⟩, .slice none 0 0, .slice none 0 0, .slice none 0 0, .slice none 0 0]).below ((Below.refl _ _).alloc (Nat.le_refl _) (.cells #[.string (zW nm), .slice none 0 0, .slice none 0 0, .slice none 0 0, .slice none 0 0] 31))
  rw [World.size_alloc] at h3
  exact h3
 have gb : zN 31 (w.heap.size + 2) (((w.alloc (.cells #[.string (zW nm), .slice a n c] 24)).alloc (.cells #[.string ⟨#[]⟩, .slice none 0 0, .slice none 0 0, .slice none 0 0, .slice none 0 0] 31)).alloc (.cells #[.string (zW nm), .slice none 0 0, .slice none 0 0, .slice none 0 0, .slice none 0 0] 31)) #[.string (zW nm), .slice none 0 0, .slice none 0 0, .slice none 0 0, .slice none 0 0] := by
  have h3 := zU 31 ((w.alloc (.cells #[.string (zW nm), .slice a n c] 24)).alloc (.cells #[.string ⟨#[]⟩, .slice none 0 0, .slice none 0 0, .slice none 0 0, .slice none 0 0] 31)) #[.string (zW nm), .slice none 0 0, .slice none 0 0, .slice none 0 0, .slice none 0 0]
  rw [World.size_alloc, World.size_alloc] at h3
  exact h3
 have WH : Hid (∀ U, Below w.heap.size w U -> ∀ l : List UInt8, Calls Try.prog 47 #[.agg #[.string (zW nm), .slice a n c], .string (zW l)] U fun e w' => e = .returned (.int .i64 (vK (xF (L.map Prod.fst)) l)) /\ Below U.heap.size U w') := fun U hU l => eM nm a n c L l U hn (h.below hU) hl
 have D0 : Hid (gG w (((w.alloc (.cells #[.string (zW nm), .slice a n c] 24)).alloc (.cells #[.string ⟨#[]⟩, .slice none 0 0, .slice none 0 0, .slice none 0 0, .slice none 0 0] 31)).alloc (.cells #[.string (zW nm), .slice none 0 0, .slice none 0 0, .slice none 0 0, .slice none 0 0] 31)).heap.size #[.string (zW nm), .slice a n c] nm (.slice none 0 0) (.slice none 0 0) (.slice none 0 0) (.slice none 0 0) [] [] [] [] (((w.alloc (.cells #[.string (zW nm), .slice a n c] 24)).alloc (.cells #[.string ⟨#[]⟩, .slice none 0 0, .slice none 0 0, .slice none 0 0, .slice none 0 0] 31)).alloc (.cells #[.string (zW nm), .slice none 0 0, .slice none 0 0, .slice none 0 0, .slice none 0 0] 31))) := ⟨sb, rb, gb, World.ownsRow_nil _ _ _ _, World.ownsRow_nil _ _ _ _, World.ownsRow_nil _ _ _ _, World.ownsRow_nil _ _ _ _, NB.nilL _, fun p hp => (by cases hp), fun p hp => (by cases hp), ba, gb.lt, Nat.le_refl _⟩
 have HR := zZ h
 have HO := zZ hO
 have HL := zZ hn
 have HK := zZ hk
 have hnI : (n : Int) <= 2000000 := by omega
 obtain ⟨iA, hiA, hzA0, hzA1, hzA2⟩ := info_parts Try.infoA
 have JA := zZ hiA
 have JA0 := zZ hzA0
 have JA1 := zZ hzA1
 have JA2 := zZ hzA2
 obtain ⟨iE, hiE, hzE0, hzE1, hzE2⟩ := info_parts Try.infoE
 have JE := zZ hiE
 have JE0 := zZ hzE0
 have JE1 := zZ hzE1
 have JE2 := zZ hzE2
 obtain ⟨iP, hiP, hzP0, hzP1, hzP2⟩ := info_parts Try.infoP
 have JP := zZ hiP
 have JP0 := zZ hzP0
 have JP1 := zZ hzP1
 have JP2 := zZ hzP2
 have y0 := sb.cell (k := 0) rfl
 clear ba sb rb gb h hO hn hk hiA hzA0 hzA1 hzA2 hiE hzE0 hzE1 hzE2 hiP hzP0 hzP1 hzP2
 go_enter Try.func19, Try.ntmps19
 go_upto_region 2 with fail
 generalize ((w.alloc (.cells #[.string (zW nm), .slice a n c] 24)).alloc (.cells #[.string ⟨#[]⟩, .slice none 0 0, .slice none 0 0, .slice none 0 0, .slice none 0 0] 31)).alloc (.cells #[.string (zW nm), .slice none 0 0, .slice none 0 0, .slice none 0 0, .slice none 0 0] 31) = W1 at *
 generalize hns : xF (L.map Prod.fst) = ns at *
 have HNS := zZ hns
 obtain ⟨B, hBe⟩ : ∃ B, W1.heap.size = B := ⟨_, rfl⟩
 rw [hBe] at D0
 clear hns hBe y0
 go_wp2
 go_loopg [4] n (fun gk v wr => ∃ (k : Nat) (v1 v2 v3 v4 : Value) (As : List (GA × Value)) (Es : List (GE × Value)) (Ps Os : List GP), k <= n /\ gk = n - k /\ v = .int .i64 (k : Int) /\ gG w B #[.string (zW nm), .slice a n c] nm v1 v2 v3 v4 As Es Ps Os wr /\ oG ns ((L.map Prod.fst).take k) As Es Ps Os)
 case atStart => exact ⟨0, _, _, _, _, [], [], [], [], Nat.zero_le _, rfl, rfl, D0.out, VW _⟩
 case round =>
  clear D0
  obtain ⟨k, v1, v2, v3, v4, As, Es, Ps, Os, hk, rfl, rfl, hD, hLl⟩ := hrel
  obtain ⟨x1, d1, rfl⟩ := zC hD.r1
  obtain ⟨x2, d2, rfl⟩ := zC hD.r2
  obtain ⟨x3, d3, rfl⟩ := zC hD.r3
  obtain ⟨x4, d4, rfl⟩ := zC hD.r4
  have DD := zZ hD
  have LL := zZ hLl
  have LN : As.length <= 2000000 /\ Es.length <= 97 /\ Ps.length <= 17 /\ Os.length <= 17 := by
   have q := hLl.len
   rw [List.length_take, List.length_map] at q
   omega
  have y1 : wr.cell? ⟨w.heap.size, 1, none⟩ = some (.slice a n c) := hD.sb.cell rfl
  clear hD hLl
  by_cases hlt : k < n
  ·have hki : (k : Int) < (n : Int) := by omega
   have hr := HR.out.below DD.out.bel
   have hkl : k < L.length := by have := HL.out; omega
   rcases hr.lie with e | ⟨g, off, rfl, hc⟩
   ·rw [e] at hkl; exact absurd hkl (Nat.not_lt_zero _)
   obtain ⟨c0, c1, c2, c3, c4, c5, c6, c7, c8, c9, c10⟩ := hc k hkl
   have hmem := yJ (L := L) hkl
   obtain ⟨qa, qc, hq, hqa⟩ := HO.out.args _ hmem
   rw [hq] at c3
   have HQA := zZ hqa
   have hkk := HK.out _ hmem
   have TK := zZ (oK hkl)
   generalize (yV L k).1 = x at *
   obtain ⟨ki, xn, xt, nu, ⟨fn, fp, fa⟩, ⟨tn, tp, ta⟩, pl⟩ := x
   obtain ⟨qn, hqn⟩ : ∃ q, nu.length = q := ⟨_, rfl⟩
   have HQN := zZ hqn
   simp only at c0 c1 c2 c3 c4 c5 c6 c7 c8 c9 c10 HQA hkk
   rw [hqn] at c3 HQA
   clear hc hr hq hqa hmem hqn
   have NOK : Hid (xL nu) := ⟨HQA.out.fits, by rw [HQN.out]; exact HQA.out.reach⟩
   have IN : Hid (∀ U, Below w.heap.size w U -> Calls Try.prog 46 #[.slice qa qn qc] U (uE U qn nu)) := fun U hU => aW qa nu qn qc U (HQA.out.below hU)
   have bv := (Below.refl wr.heap.size wr).alloc (Nat.le_refl _) (.cells #[.int .u8 ki, .string (zW xn), .string (zW xt), .slice qa qn qc, .string (zW fn), .int .i64 fp, .int .i64 fa, .string (zW tn), .int .i64 tp, .int .i64 ta, .int .i64 pl] 45)
   have DV := zZ (DD.out.below bv)
   have BV := zZ (DD.out.bel.trans (bv.mono DD.out.bel.size))
   have bx := zU 45 wr #[.int .u8 ki, .string (zW xn), .string (zW xt), .slice qa qn qc, .string (zW fn), .int .i64 fp, .int .i64 fa, .string (zW tn), .int .i64 tp, .int .i64 ta, .int .i64 pl]
   have bb0 := bx.cell (k := 0) rfl
   have bb1 := bx.cell (k := 1) rfl
   have bb2 := bx.cell (k := 2) rfl
   have bb3 := bx.cell (k := 3) rfl
   have bb4 := bx.cell (k := 4) rfl
   have bb5 := bx.cell (k := 5) rfl
   have bb6 := bx.cell (k := 6) rfl
   have bb7 := bx.cell (k := 7) rfl
   have bb8 := bx.cell (k := 8) rfl
   have bb9 := bx.cell (k := 9) rfl
   have bb10 := bx.cell (k := 10) rfl
   have BX := zZ bx
   have gg1 : (wr.alloc (.cells #[.int .u8 ki, .string (zW xn), .string (zW xt), .slice qa qn qc, .string (zW fn), .int .i64 fp, .int .i64 fa, .string (zW tn), .int .i64 tp, .int .i64 ta, .int .i64 pl] 45)).cell? ⟨w.heap.size + 2, 1, none⟩ = some (.slice x1 As.length d1) := DV.out.gb.cell rfl
   have gg2 : (wr.alloc (.cells #[.int .u8 ki, .string (zW xn), .string (zW xt), .slice qa qn qc, .string (zW fn), .int .i64 fp, .int .i64 fa, .string (zW tn), .int .i64 tp, .int .i64 ta, .int .i64 pl] 45)).cell? ⟨w.heap.size + 2, 2, none⟩ = some (.slice x2 Es.length d2) := DV.out.gb.cell rfl
   have gg3 : (wr.alloc (.cells #[.int .u8 ki, .string (zW xn), .string (zW xt), .slice qa qn qc, .string (zW fn), .int .i64 fp, .int .i64 fa, .string (zW tn), .int .i64 tp, .int .i64 ta, .int .i64 pl] 45)).cell? ⟨w.heap.size + 2, 3, none⟩ = some (.slice x3 Ps.length d3) := DV.out.gb.cell rfl
   have gg4 : (wr.alloc (.cells #[.int .u8 ki, .string (zW xn), .string (zW xt), .slice qa qn qc, .string (zW fn), .int .i64 fp, .int .i64 fa, .string (zW tn), .int .i64 tp, .int .i64 ta, .int .i64 pl] 45)).cell? ⟨w.heap.size + 2, 4, none⟩ = some (.slice x4 Os.length d4) := DV.out.gb.cell rfl
   have ss0 : (wr.alloc (.cells #[.int .u8 ki, .string (zW xn), .string (zW xt), .slice qa qn qc, .string (zW fn), .int .i64 fp, .int .i64 fa, .string (zW tn), .int .i64 tp, .int .i64 ta, .int .i64 pl] 45)).cell? ⟨w.heap.size, 0, none⟩ = some (.string (zW nm)) := DV.out.sb.cell rfl
   have ss1 : (wr.alloc (.cells #[.int .u8 ki, .string (zW xn), .string (zW xt), .slice qa qn qc, .string (zW fn), .int .i64 fp, .int .i64 fa, .string (zW tn), .int .i64 tp, .int .i64 ta, .int .i64 pl] 45)).cell? ⟨w.heap.size, 1, none⟩ = some (.slice (some ⟨g, off, none⟩) n c) := DV.out.sb.cell rfl
   clear bv bx
   have hcase : ki = 1 \/ ki = 2 \/ ki = 3 \/ ki = 4 := by omega
   clear hkk
   rcases hcase with rfl | rfl | rfl | rfl
   ·have TG : Hid (∀ U, Calls Try.prog 45 #[.string (zW xt)] U fun e w' => e = .returned (.tuple #[.int .u8 ((uY xt).1 : Int), .int .i64 (uY xt).2]) /\ Below U.heap.size U w') := fun U => aI xt U
    have HTL := zZ (dH xt)
    have HLU : Hid (YF ⟨1, xn, xt, nu, ⟨fn, fp, fa⟩, ⟨tn, tp, ta⟩, pl⟩ = ⟨xn, (uY xt).1, nu⟩) := by rfl
    generalize (uY xt).2 = te at *
    generalize (uY xt).1 = tg at *
    go_upto_region 8 with fail
    generalize wr.alloc (.cells #[.int .u8 1, .string (zW xn), .string (zW xt), .slice qa qn qc, .string (zW fn), .int .i64 fp, .int .i64 fa, .string (zW tn), .int .i64 tp, .int .i64 ta, .int .i64 pl] 45) = W5 at *
    clear c0 c1 c2 c3 c4 c5 c6 c7 c8 c9 c10 y1
    go_upto_region 9 with (go_at_call 45; (with_reducible refine (TG.out _).mono ?_); rintro e V ⟨rfl, b5⟩; have z1 := zX b5 bb1; have z3 := zX b5 bb3; have zg := zX b5 gg1; have DV' := zZ (DV.out.below b5); have BV' := zZ (BV.out.trans (b5.mono BV.out.size)); clear b5)
    clear bb0 bb1 bb2 bb3 bb4 bb5 bb6 bb7 bb8 bb9 bb10 gg1 gg2 gg3 gg4 ss0 ss1 DV BV BX
    have DV := DV'
    have BV := BV'
    clear DV' BV'
    refine zP 10 (fun i u v => match i with
     | 0 => v = .pointer (some ⟨w.heap.size + 2, 1, none⟩)
     | 1 => v = .slice x1 As.length d1
     | 2 => v = .pointer (some ⟨wr.heap.size, 1, none⟩)
     | 3 => v = .string (zW xn)
     | 4 => v = .int .u8 (tg : Int)
     | 5 => v = .pointer (some ⟨wr.heap.size, 3, none⟩)
     | 6 => v = .slice qa qn qc
     | 7 => pZ V id qn nu u v
     | 8 => pZ V (VT xn tg) qn nu u v
     | 9 => gE V (fun q => aP (⟨xn, tg, nu⟩, q)) qn nu u v
     | _ => True) (by kernel_rfl) (by kernel_rfl) (by kernel_rfl) (by kernel_rfl) ?_ ?_ ?_
    ·intro i w v w' h hb
     match i, h with
     | 0, h => exact h
     | 1, h => exact h
     | 2, h => exact h
     | 3, h => exact h
     | 4, h => exact h
     | 5, h => exact h
     | 6, h => exact h
     | 7, h => exact h.later hb
     | 8, h => exact h.later hb
     | 9, h => exact h.later hb
     | _ + 10, _ => trivial
    ·intro i o ρ w' hi ho hb hc hf hfr zY
     have b1 := zX hb z1
     have b3 := zX hb z3
     have g1 := zX hb zg
     match i, hi with
     | 0, _ =>
      simp only [qS] at ho
      subst ho
      have ts : ρ (.tmp 3) = .pointer (some ⟨w.heap.size + 2, 0, none⟩) := hfr 3 (by kernel_rfl)
      simp [go_sem, ts]
      exact qB
     | 1, _ =>
      simp only [qS] at ho
      subst ho
      have ts : ρ (.tmp 33) = .pointer (some ⟨w.heap.size + 2, 1, none⟩) := zY 0 33 (by kernel_rfl) (by kernel_rfl)
      simp [go_sem, ts, g1]
      exact qB
     | 2, _ =>
      simp only [qS] at ho
      subst ho
      have ts : ρ (.tmp 5) = .pointer (some ⟨wr.heap.size, 0, none⟩) := hfr 5 (by kernel_rfl)
      simp [go_sem, ts]
      exact qB
     | 3, _ =>
      simp only [qS] at ho
      subst ho
      have ts : ρ (.tmp 35) = .pointer (some ⟨wr.heap.size, 1, none⟩) := zY 2 35 (by kernel_rfl) (by kernel_rfl)
      simp [go_sem, ts, b1]
      exact qB
     | 4, _ =>
      simp only [qS] at ho
      subst ho
      have ts : ρ (.tmp 6) = .int .u8 (tg : Int) := hfr 6 (by kernel_rfl)
      simp [go_sem, ts]
      exact qB
     | 5, _ =>
      simp only [qS] at ho
      subst ho
      have ts : ρ (.tmp 5) = .pointer (some ⟨wr.heap.size, 0, none⟩) := hfr 5 (by kernel_rfl)
      simp [go_sem, ts]
      exact qB
     | 6, _ =>
      simp only [qS] at ho
      subst ho
      have ts : ρ (.tmp 38) = .pointer (some ⟨wr.heap.size, 3, none⟩) := zY 5 38 (by kernel_rfl) (by kernel_rfl)
      simp [go_sem, ts, b3]
      exact qB
     | 7, _ =>
      simp only [qS] at ho
      subst ho
      have t0 : ρ (.tmp 39) = .slice qa qn qc := zY 6 39 (by kernel_rfl) (by kernel_rfl)
      simp [go_sem, t0, hf]
      exact ⟨rfl, (IN.out w' (BV.out.trans (hb.mono BV.out.size))).mono fun e w'' hh => by obtain ⟨za, zc, h1, h2, h3⟩ := hh; exact ⟨_, h1, h3, za, zc, rfl, h2.mono hb.size⟩⟩
     | 8, _ =>
      simp only [qS] at ho
      subst ho
      have t0 : ρ (.tmp 36) = .string (zW xn) := zY 3 36 (by kernel_rfl) (by kernel_rfl)
      have t1 : ρ (.tmp 37) = .int .u8 (tg : Int) := zY 4 37 (by kernel_rfl) (by kernel_rfl)
      obtain ⟨za, zc, t2, hz⟩ : pZ V id qn nu w' (ρ (.tmp 40)) := zY 7 40 (by kernel_rfl) (by kernel_rfl)
      simp only [id] at t2
      simp [go_sem, t0, t1, t2]
      exact ⟨Below.refl _ _, za, zc, rfl, hz⟩
     | 9, _ =>
      simp only [qS] at ho
      subst ho
      obtain ⟨za, zc, t2, hz⟩ : pZ V (VT xn tg) qn nu w' (ρ (.tmp 41)) := zY 8 41 (by kernel_rfl) (by kernel_rfl)
      unfold VT at t2
      simp [go_sem, t2]
      exact ⟨(Below.refl _ _).alloc (Nat.le_refl _) _, gD (P := fun q => aP (⟨xn, tg, nu⟩, q)) 61 hz⟩
    intro V9 w9 q9 hS
    have e0 : V9 0 = .pointer (some ⟨w.heap.size + 2, 1, none⟩) := hS 0 (by decide)
    have e1 : V9 1 = .slice x1 As.length d1 := hS 1 (by decide)
    have e2 : V9 2 = .pointer (some ⟨wr.heap.size, 1, none⟩) := hS 2 (by decide)
    have e3 : V9 3 = .string (zW xn) := hS 3 (by decide)
    have e4 : V9 4 = .int .u8 (tg : Int) := hS 4 (by decide)
    have e5 : V9 5 = .pointer (some ⟨wr.heap.size, 3, none⟩) := hS 5 (by decide)
    have e6 : V9 6 = .slice qa qn qc := hS 6 (by decide)
    obtain ⟨za7, zc7, e7, -⟩ : pZ V id qn nu w9 (V9 7) := hS 7 (by decide)
    obtain ⟨za8, zc8, e8, -⟩ : pZ V (VT xn tg) qn nu w9 (V9 8) := hS 8 (by decide)
    obtain ⟨hx, za, zc, e9, Q1, Q2⟩ : gE V (fun q => aP (⟨xn, tg, nu⟩, q)) qn nu w9 (V9 9) := hS 9 (by decide)
    simp only [List.drop_succ_cons, List.drop_zero, List.take_succ_cons, List.take_zero, yL, e0, e1, e2, e3, e4, e5, e6, e7, e8, e9]
    clear hS e0 e1 e2 e3 e4 e5 e6 e7 e8 e9 V9
    simp only [Act.put, qU]
    have B5 := zZ q9
    have QC := zZ Q1
    have HP : Hid (YX B w9 (⟨xn, tg, nu⟩, .slice za qn zc)) := ⟨by show tg <= 255; have := HTL.out; omega, NOK.out, by have r := Q2.mono DV.out.big; unfold yS at r; rw [HQN.out] at r; show w9.ownsRow B 3 1 _ nu.length _; rw [HQN.out]; exact r⟩
    clear q9 Q1 Q2 z1 z3 zg
    go_wp2_with (at_builtin; refine zJ _ rfl (.tmp 34) (.tmp 42) 27 rfl B 61 iA (.agg #[.string ⟨#[]⟩, .int .u8 0, .slice none 0 0]) 3 48 Try.underlying27 JA.out JA0.out JA1.out JA2.out rfl (by decide) (.slice x1 As.length d1) As.length (As.flatMap aP) rfl (zS DV.out.r1 B5.out) ⟨hx, 0, none⟩ 1 1 (by decide) (aP (⟨xn, tg, nu⟩, .slice za qn zc)) rfl rfl QC.out (ZH _ _ _ _) (by unfold maxLen; omega) (by omega) (Nat.le_trans DV.out.big B5.out.size) ?_; intro v' w4 ho ht; obtain ⟨D10, bk⟩ := DV.out.put1 B5.out HP.out ho ht; obtain ⟨va4, vc4, rfl⟩ := yG ht; have E10 := zZ D10; have s1 : w4.cell? ⟨w.heap.size + 2, 1, none⟩ = some (.slice x1 As.length d1) := bk.cell rfl; have f1 := bk.frozen 1; clear ho ht D10 bk)
    go_roundg (n - (k + 1))
    case measure => omega
    case rel => exact ⟨k + 1, _, _, _, _, As ++ [(⟨xn, tg, nu⟩, .slice za qn zc)], Es, Ps, Os, by omega, rfl, by go_num, E10.out, by rw [TK.out]; exact (by have r := LL.out.addA (x := ⟨1, xn, xt, nu, ⟨fn, fp, fa⟩, ⟨tn, tp, ta⟩, pl⟩) rfl (.slice za qn zc); rw [HLU.out] at r; exact r)⟩
   ·by_cases hm : Es.length < 97
    ·have hmI : (Es.length : Int) <= 96 := by omega
     go_upto_region 12 with fail
     generalize wr.alloc (.cells #[.int .u8 2, .string (zW xn), .string (zW xt), .slice qa qn qc, .string (zW fn), .int .i64 fp, .int .i64 fa, .string (zW tn), .int .i64 tp, .int .i64 ta, .int .i64 pl] 45) = V at *
     clear c0 c1 c2 c3 c4 c5 c6 c7 c8 c9 c10 y1
     refine zP 23 (fun i u v => match i with
      | 0 => v = .pointer (some ⟨w.heap.size + 2, 2, none⟩)
      | 1 => v = .slice x2 Es.length d2
      | 2 => v = .agg #[.string (zW nm), .slice (some ⟨g, off, none⟩) n c]
      | 3 => v = .pointer (some ⟨wr.heap.size, 4, none⟩)
      | 4 => v = .pointer (some ⟨wr.heap.size, 4, none⟩)
      | 5 => v = .string (zW fn)
      | 6 => v = .int .i64 (vK ns fn)
      | 7 => v = .pointer (some ⟨wr.heap.size, 4, none⟩)
      | 8 => v = .pointer (some ⟨wr.heap.size, 5, none⟩)
      | 9 => v = .int .i64 fp
      | 10 => v = .agg #[.string (zW nm), .slice (some ⟨g, off, none⟩) n c]
      | 11 => v = .pointer (some ⟨wr.heap.size, 7, none⟩)
      | 12 => v = .pointer (some ⟨wr.heap.size, 7, none⟩)
      | 13 => v = .string (zW tn)
      | 14 => v = .int .i64 (vK ns tn)
      | 15 => v = .pointer (some ⟨wr.heap.size, 7, none⟩)
      | 16 => v = .pointer (some ⟨wr.heap.size, 8, none⟩)
      | 17 => v = .int .i64 tp
      | 18 => v = .pointer (some ⟨wr.heap.size, 3, none⟩)
      | 19 => v = .slice qa qn qc
      | 20 => pZ V id qn nu u v
      | 21 => pZ V (VR (vK ns fn) fp (vK ns tn) tp) qn nu u v
      | 22 => gE V (fun q => eP (⟨vK ns fn, fp, vK ns tn, tp, nu⟩, q)) qn nu u v
      | _ => True) (by kernel_rfl) (by kernel_rfl) (by kernel_rfl) (by kernel_rfl) ?_ ?_ ?_
     ·intro i w v w' h hb
      match i, h with
      | 0, h => exact h
      | 1, h => exact h
      | 2, h => exact h
      | 3, h => exact h
      | 4, h => exact h
      | 5, h => exact h
      | 6, h => exact h
      | 7, h => exact h
      | 8, h => exact h
      | 9, h => exact h
      | 10, h => exact h
      | 11, h => exact h
      | 12, h => exact h
      | 13, h => exact h
      | 14, h => exact h
      | 15, h => exact h
      | 16, h => exact h
      | 17, h => exact h
      | 18, h => exact h
      | 19, h => exact h
      | 20, h => exact h.later hb
      | 21, h => exact h.later hb
      | 22, h => exact h.later hb
      | _ + 23, _ => trivial
     ·intro i o ρ w' hi ho hb hc hf hfr zY
      have b4 := zX hb bb4
      have b5 := zX hb bb5
      have b7 := zX hb bb7
      have b8 := zX hb bb8
      have b3 := zX hb bb3
      have g2 := zX hb gg2
      have s0 := zX hb ss0
      have s1 := zX hb ss1
      match i, hi with
      | 0, _ =>
       simp only [qS] at ho
       subst ho
       have ts : ρ (.tmp 3) = .pointer (some ⟨w.heap.size + 2, 0, none⟩) := hfr 3 (by kernel_rfl)
       simp [go_sem, ts]
       exact qB
      | 1, _ =>
       simp only [qS] at ho
       subst ho
       have ts : ρ (.tmp 51) = .pointer (some ⟨w.heap.size + 2, 2, none⟩) := zY 0 51 (by kernel_rfl) (by kernel_rfl)
       simp [go_sem, ts, g2]
       exact qB
      | 2, _ =>
       simp only [qS] at ho
       subst ho
       have ts : ρ (.tmp 1) = .pointer (some ⟨w.heap.size, 0, none⟩) := hfr 1 (by kernel_rfl)
       simp [go_sem, ts, s0, s1]
       exact qB
      | 3, _ =>
       simp only [qS] at ho
       subst ho
       have ts : ρ (.tmp 5) = .pointer (some ⟨wr.heap.size, 0, none⟩) := hfr 5 (by kernel_rfl)
       simp [go_sem, ts]
       exact qB
      | 4, _ =>
       simp only [qS] at ho
       subst ho
       have ts : ρ (.tmp 54) = .pointer (some ⟨wr.heap.size, 4, none⟩) := zY 3 54 (by kernel_rfl) (by kernel_rfl)
       simp [go_sem, ts]
       exact qB
      | 5, _ =>
       simp only [qS] at ho
       subst ho
       have ts : ρ (.tmp 55) = .pointer (some ⟨wr.heap.size, 4, none⟩) := zY 4 55 (by kernel_rfl) (by kernel_rfl)
       simp [go_sem, ts, b4]
       exact qB
      | 6, _ =>
       simp only [qS] at ho
       subst ho
       have t0 : ρ (.tmp 53) = .agg #[.string (zW nm), .slice (some ⟨g, off, none⟩) n c] := zY 2 53 (by kernel_rfl) (by kernel_rfl)
       have t1 : ρ (.tmp 56) = .string (zW fn) := zY 5 56 (by kernel_rfl) (by kernel_rfl)
       simp [go_sem, t0, t1, hf]
       exact ⟨rfl, (WH.out w' (BV.out.trans (hb.mono BV.out.size)) fn).mono fun e w'' hh => ⟨_, hh.1, hh.2, rfl⟩⟩
      | 7, _ =>
       simp only [qS] at ho
       subst ho
       have ts : ρ (.tmp 5) = .pointer (some ⟨wr.heap.size, 0, none⟩) := hfr 5 (by kernel_rfl)
       simp [go_sem, ts]
       exact qB
      | 8, _ =>
       simp only [qS] at ho
       subst ho
       have ts : ρ (.tmp 58) = .pointer (some ⟨wr.heap.size, 4, none⟩) := zY 7 58 (by kernel_rfl) (by kernel_rfl)
       simp [go_sem, ts]
       exact qB
      | 9, _ =>
       simp only [qS] at ho
       subst ho
       have ts : ρ (.tmp 59) = .pointer (some ⟨wr.heap.size, 5, none⟩) := zY 8 59 (by kernel_rfl) (by kernel_rfl)
       simp [go_sem, ts, b5]
       exact qB
      | 10, _ =>
       simp only [qS] at ho
       subst ho
       have ts : ρ (.tmp 1) = .pointer (some ⟨w.heap.size, 0, none⟩) := hfr 1 (by kernel_rfl)
       simp [go_sem, ts, s0, s1]
       exact qB
      | 11, _ =>
       simp only [qS] at ho
       subst ho
       have ts : ρ (.tmp 5) = .pointer (some ⟨wr.heap.size, 0, none⟩) := hfr 5 (by kernel_rfl)
       simp [go_sem, ts]
       exact qB
      | 12, _ =>
       simp only [qS] at ho
       subst ho
       have ts : ρ (.tmp 62) = .pointer (some ⟨wr.heap.size, 7, none⟩) := zY 11 62 (by kernel_rfl) (by kernel_rfl)
       simp [go_sem, ts]
       exact qB
      | 13, _ =>
       simp only [qS] at ho
       subst ho
       have ts : ρ (.tmp 63) = .pointer (some ⟨wr.heap.size, 7, none⟩) := zY 12 63 (by kernel_rfl) (by kernel_rfl)
       simp [go_sem, ts, b7]
       exact qB
      | 14, _ =>
       simp only [qS] at ho
       subst ho
       have t0 : ρ (.tmp 61) = .agg #[.string (zW nm), .slice (some ⟨g, off, none⟩) n c] := zY 10 61 (by kernel_rfl) (by kernel_rfl)
       have t1 : ρ (.tmp 64) = .string (zW tn) := zY 13 64 (by kernel_rfl) (by kernel_rfl)
       simp [go_sem, t0, t1, hf]
       exact ⟨rfl, (WH.out w' (BV.out.trans (hb.mono BV.out.size)) tn).mono fun e w'' hh => ⟨_, hh.1, hh.2, rfl⟩⟩
      | 15, _ =>
       simp only [qS] at ho
       subst ho
       have ts : ρ (.tmp 5) = .pointer (some ⟨wr.heap.size, 0, none⟩) := hfr 5 (by kernel_rfl)
       simp [go_sem, ts]
       exact qB
      | 16, _ =>
       simp only [qS] at ho
       subst ho
       have ts : ρ (.tmp 66) = .pointer (some ⟨wr.heap.size, 7, none⟩) := zY 15 66 (by kernel_rfl) (by kernel_rfl)
       simp [go_sem, ts]
       exact qB
      | 17, _ =>
       simp only [qS] at ho
       subst ho
       have ts : ρ (.tmp 67) = .pointer (some ⟨wr.heap.size, 8, none⟩) := zY 16 67 (by kernel_rfl) (by kernel_rfl)
       simp [go_sem, ts, b8]
       exact qB
      | 18, _ =>
       simp only [qS] at ho
       subst ho
       have ts : ρ (.tmp 5) = .pointer (some ⟨wr.heap.size, 0, none⟩) := hfr 5 (by kernel_rfl)
       simp [go_sem, ts]
       exact qB
      | 19, _ =>
       simp only [qS] at ho
       subst ho
       have ts : ρ (.tmp 69) = .pointer (some ⟨wr.heap.size, 3, none⟩) := zY 18 69 (by kernel_rfl) (by kernel_rfl)
       simp [go_sem, ts, b3]
       exact qB
      | 20, _ =>
       simp only [qS] at ho
       subst ho
       have t0 : ρ (.tmp 70) = .slice qa qn qc := zY 19 70 (by kernel_rfl) (by kernel_rfl)
       simp [go_sem, t0, hf]
       exact ⟨rfl, (IN.out w' (BV.out.trans (hb.mono BV.out.size))).mono fun e w'' hh => by obtain ⟨za, zc, h1, h2, h3⟩ := hh; exact ⟨_, h1, h3, za, zc, rfl, h2.mono hb.size⟩⟩
      | 21, _ =>
       simp only [qS] at ho
       subst ho
       have t0 : ρ (.tmp 57) = .int .i64 (vK ns fn) := zY 6 57 (by kernel_rfl) (by kernel_rfl)
       have t1 : ρ (.tmp 60) = .int .i64 fp := zY 9 60 (by kernel_rfl) (by kernel_rfl)
       have t2 : ρ (.tmp 65) = .int .i64 (vK ns tn) := zY 14 65 (by kernel_rfl) (by kernel_rfl)
       have t3 : ρ (.tmp 68) = .int .i64 tp := zY 17 68 (by kernel_rfl) (by kernel_rfl)
       obtain ⟨za, zc, t4, hz⟩ : pZ V id qn nu w' (ρ (.tmp 71)) := zY 20 71 (by kernel_rfl) (by kernel_rfl)
       simp only [id] at t4
       simp [go_sem, t0, t1, t2, t3, t4]
       exact ⟨Below.refl _ _, za, zc, rfl, hz⟩
      | 22, _ =>
       simp only [qS] at ho
       subst ho
       obtain ⟨za, zc, t2, hz⟩ : pZ V (VR (vK ns fn) fp (vK ns tn) tp) qn nu w' (ρ (.tmp 72)) := zY 21 72 (by kernel_rfl) (by kernel_rfl)
       unfold VR at t2
       simp [go_sem, t2]
       exact ⟨(Below.refl _ _).alloc (Nat.le_refl _) _, gD (P := fun q => eP (⟨vK ns fn, fp, vK ns tn, tp, nu⟩, q)) 64 hz⟩
      | k + 23, h => exact absurd h (by omega)
     intro V9 w9 q9 hS
     have e0 : V9 0 = .pointer (some ⟨w.heap.size + 2, 2, none⟩) := hS 0 (by decide)
     have e1 : V9 1 = .slice x2 Es.length d2 := hS 1 (by decide)
     have e2 : V9 2 = .agg #[.string (zW nm), .slice (some ⟨g, off, none⟩) n c] := hS 2 (by decide)
     have e3 : V9 3 = .pointer (some ⟨wr.heap.size, 4, none⟩) := hS 3 (by decide)
     have e4 : V9 4 = .pointer (some ⟨wr.heap.size, 4, none⟩) := hS 4 (by decide)
     have e5 : V9 5 = .string (zW fn) := hS 5 (by decide)
     have e6 : V9 6 = .int .i64 (vK ns fn) := hS 6 (by decide)
     have e7 : V9 7 = .pointer (some ⟨wr.heap.size, 4, none⟩) := hS 7 (by decide)
     have e8 : V9 8 = .pointer (some ⟨wr.heap.size, 5, none⟩) := hS 8 (by decide)
     have e9 : V9 9 = .int .i64 fp := hS 9 (by decide)
     have e10 : V9 10 = .agg #[.string (zW nm), .slice (some ⟨g, off, none⟩) n c] := hS 10 (by decide)
     have e11 : V9 11 = .pointer (some ⟨wr.heap.size, 7, none⟩) := hS 11 (by decide)
     have e12 : V9 12 = .pointer (some ⟨wr.heap.size, 7, none⟩) := hS 12 (by decide)
     have e13 : V9 13 = .string (zW tn) := hS 13 (by decide)
     have e14 : V9 14 = .int .i64 (vK ns tn) := hS 14 (by decide)
     have e15 : V9 15 = .pointer (some ⟨wr.heap.size, 7, none⟩) := hS 15 (by decide)
     have e16 : V9 16 = .pointer (some ⟨wr.heap.size, 8, none⟩) := hS 16 (by decide)
     have e17 : V9 17 = .int .i64 tp := hS 17 (by decide)
     have e18 : V9 18 = .pointer (some ⟨wr.heap.size, 3, none⟩) := hS 18 (by decide)
     have e19 : V9 19 = .slice qa qn qc := hS 19 (by decide)
     obtain ⟨za20, zc20, e20, -⟩ : pZ V id qn nu w9 (V9 20) := hS 20 (by decide)
     obtain ⟨za21, zc21, e21, -⟩ : pZ V (VR (vK ns fn) fp (vK ns tn) tp) qn nu w9 (V9 21) := hS 21 (by decide)
     obtain ⟨hx, za, zc, e22, Q1, Q2⟩ : gE V (fun q => eP (⟨vK ns fn, fp, vK ns tn, tp, nu⟩, q)) qn nu w9 (V9 22) := hS 22 (by decide)
     simp only [List.drop_succ_cons, List.drop_zero, List.take_succ_cons, List.take_zero, yL, e0, e1, e2, e3, e4, e5, e6, e7, e8, e9, e10, e11, e12, e13, e14, e15, e16, e17, e18, e19, e20, e21, e22]
     clear hS e0 e1 e2 e3 e4 e5 e6 e7 e8 e9 e10 e11 e12 e13 e14 e15 e16 e17 e18 e19 e20 e21 e22 V9
     simp only [Act.put, qU]
     have B5 := zZ q9
     have QC := zZ Q1
     have HLU : Hid (wE ns ⟨2, xn, xt, nu, ⟨fn, fp, fa⟩, ⟨tn, tp, ta⟩, pl⟩ = ⟨vK ns fn, fp, vK ns tn, tp, nu⟩) := by rfl
     generalize vK ns fn = u1 at *
     generalize vK ns tn = u2 at *
     have HP : Hid (YW B w9 (⟨u1, fp, u2, tp, nu⟩, .slice za qn zc)) := ⟨NOK.out, by have r := Q2.mono DV.out.big; unfold yS at r; rw [HQN.out] at r; show w9.ownsRow B 3 1 _ nu.length _; rw [HQN.out]; exact r⟩
     clear q9 Q1 Q2 bb0 bb1 bb2 bb3 bb4 bb5 bb6 bb7 bb8 bb9 bb10 gg1 gg2 gg3 gg4 ss0 ss1
     go_wp2_with (at_builtin; refine zJ _ rfl (.tmp 52) (.tmp 73) 28 rfl B 64 iE (.agg #[.int .i64 0, .int .i64 0, .int .i64 0, .int .i64 0, .slice none 0 0]) 5 56 Try.underlying28 JE.out JE0.out JE1.out JE2.out rfl (by decide) (.slice x2 Es.length d2) Es.length (Es.flatMap eP) rfl (zS DV.out.r2 B5.out) ⟨hx, 0, none⟩ 1 1 (by decide) (eP (⟨u1, fp, u2, tp, nu⟩, .slice za qn zc)) rfl rfl QC.out (ZG _ _ _ _) (by unfold maxLen; omega) (by omega) (Nat.le_trans DV.out.big B5.out.size) ?_; intro v' w4 ho ht; obtain ⟨D10, bk⟩ := DV.out.put2 B5.out HP.out ho ht; obtain ⟨va4, vc4, rfl⟩ := yG ht; have E10 := zZ D10; have s1 : w4.cell? ⟨w.heap.size + 2, 2, none⟩ = some (.slice x2 Es.length d2) := bk.cell rfl; have f1 := bk.frozen 2; clear ho ht D10 bk)
     go_roundg (n - (k + 1))
     case measure => omega
     case rel => exact ⟨k + 1, _, _, _, _, As, Es ++ [(⟨u1, fp, u2, tp, nu⟩, .slice za qn zc)], Ps, Os, by omega, rfl, by go_num, E10.out, by rw [TK.out]; exact (by have r := LL.out.addE (x := ⟨2, xn, xt, nu, ⟨fn, fp, fa⟩, ⟨tn, tp, ta⟩, pl⟩) rfl hm (.slice za qn zc); rw [HLU.out] at r; exact r)⟩
    have hmI : ¬ (Es.length : Int) <= 96 := by omega
    go_wp2
    go_roundg (n - (k + 1))
    case measure => omega
    case rel => exact ⟨k + 1, _, _, _, _, As, Es, Ps, Os, by omega, rfl, by go_num, DV.out, by rw [TK.out]; exact LL.out.skipE (x := ⟨2, xn, xt, nu, ⟨fn, fp, fa⟩, ⟨tn, tp, ta⟩, pl⟩) rfl hm⟩
   ·by_cases hm : Ps.length < 17
    ·have hmI : (Ps.length : Int) <= 16 := by omega
     go_upto_region 15 with fail
     generalize wr.alloc (.cells #[.int .u8 3, .string (zW xn), .string (zW xt), .slice qa qn qc, .string (zW fn), .int .i64 fp, .int .i64 fa, .string (zW tn), .int .i64 tp, .int .i64 ta, .int .i64 pl] 45) = V at *
     clear c0 c1 c2 c3 c4 c5 c6 c7 c8 c9 c10 y1
     refine zP 14 (fun i u v => match i with
      | 0 => v = .pointer (some ⟨w.heap.size + 2, 3, none⟩)
      | 1 => v = .slice x3 Ps.length d3
      | 2 => v = .pointer (some ⟨wr.heap.size, 1, none⟩)
      | 3 => v = .string (zW xn)
      | 4 => v = .agg #[.string (zW nm), .slice (some ⟨g, off, none⟩) n c]
      | 5 => v = .pointer (some ⟨wr.heap.size, 7, none⟩)
      | 6 => v = .pointer (some ⟨wr.heap.size, 7, none⟩)
      | 7 => v = .string (zW tn)
      | 8 => v = .int .i64 (vK ns tn)
      | 9 => v = .pointer (some ⟨wr.heap.size, 7, none⟩)
      | 10 => v = .pointer (some ⟨wr.heap.size, 8, none⟩)
      | 11 => v = .int .i64 tp
      | 12 => v = .agg #[.string (zW xn), .int .i64 (vK ns tn), .int .i64 tp]
      | 13 => qY u ⟨xn, vK ns tn, tp⟩ v
      | _ => True) (by kernel_rfl) (by kernel_rfl) (by kernel_rfl) (by kernel_rfl) ?_ ?_ ?_
     ·intro i w v w' h hb
      match i, h with
      | 0, h => exact h
      | 1, h => exact h
      | 2, h => exact h
      | 3, h => exact h
      | 4, h => exact h
      | 5, h => exact h
      | 6, h => exact h
      | 7, h => exact h
      | 8, h => exact h
      | 9, h => exact h
      | 10, h => exact h
      | 11, h => exact h
      | 12, h => exact h
      | 13, h => exact qY.later h hb
      | _ + 14, _ => trivial
     ·intro i o ρ w' hi ho hb hc hf hfr zY
      have b1 := zX hb bb1
      have b7 := zX hb bb7
      have b8 := zX hb bb8
      have g3 := zX hb gg3
      have s0 := zX hb ss0
      have s1 := zX hb ss1
      match i, hi with
      | 0, _ =>
       simp only [qS] at ho
       subst ho
       have ts : ρ (.tmp 3) = .pointer (some ⟨w.heap.size + 2, 0, none⟩) := hfr 3 (by kernel_rfl)
       simp [go_sem, ts]
       exact qB
      | 1, _ =>
       simp only [qS] at ho
       subst ho
       have ts : ρ (.tmp 82) = .pointer (some ⟨w.heap.size + 2, 3, none⟩) := zY 0 82 (by kernel_rfl) (by kernel_rfl)
       simp [go_sem, ts, g3]
       exact qB
      | 2, _ =>
       simp only [qS] at ho
       subst ho
       have ts : ρ (.tmp 5) = .pointer (some ⟨wr.heap.size, 0, none⟩) := hfr 5 (by kernel_rfl)
       simp [go_sem, ts]
       exact qB
      | 3, _ =>
       simp only [qS] at ho
       subst ho
       have ts : ρ (.tmp 84) = .pointer (some ⟨wr.heap.size, 1, none⟩) := zY 2 84 (by kernel_rfl) (by kernel_rfl)
       simp [go_sem, ts, b1]
       exact qB
      | 4, _ =>
       simp only [qS] at ho
       subst ho
       have ts : ρ (.tmp 1) = .pointer (some ⟨w.heap.size, 0, none⟩) := hfr 1 (by kernel_rfl)
       simp [go_sem, ts, s0, s1]
       exact qB
      | 5, _ =>
       simp only [qS] at ho
       subst ho
       have ts : ρ (.tmp 5) = .pointer (some ⟨wr.heap.size, 0, none⟩) := hfr 5 (by kernel_rfl)
       simp [go_sem, ts]
       exact qB
      | 6, _ =>
       simp only [qS] at ho
       subst ho
       have ts : ρ (.tmp 87) = .pointer (some ⟨wr.heap.size, 7, none⟩) := zY 5 87 (by kernel_rfl) (by kernel_rfl)
       simp [go_sem, ts]
       exact qB
      | 7, _ =>
       simp only [qS] at ho
       subst ho
       have ts : ρ (.tmp 88) = .pointer (some ⟨wr.heap.size, 7, none⟩) := zY 6 88 (by kernel_rfl) (by kernel_rfl)
       simp [go_sem, ts, b7]
       exact qB
      | 8, _ =>
       simp only [qS] at ho
       subst ho
       have t0 : ρ (.tmp 86) = .agg #[.string (zW nm), .slice (some ⟨g, off, none⟩) n c] := zY 4 86 (by kernel_rfl) (by kernel_rfl)
       have t1 : ρ (.tmp 89) = .string (zW tn) := zY 7 89 (by kernel_rfl) (by kernel_rfl)
       simp [go_sem, t0, t1, hf]
       exact ⟨rfl, (WH.out w' (BV.out.trans (hb.mono BV.out.size)) tn).mono fun e w'' hh => ⟨_, hh.1, hh.2, rfl⟩⟩
      | 9, _ =>
       simp only [qS] at ho
       subst ho
       have ts : ρ (.tmp 5) = .pointer (some ⟨wr.heap.size, 0, none⟩) := hfr 5 (by kernel_rfl)
       simp [go_sem, ts]
       exact qB
      | 10, _ =>
       simp only [qS] at ho
       subst ho
       have ts : ρ (.tmp 91) = .pointer (some ⟨wr.heap.size, 7, none⟩) := zY 9 91 (by kernel_rfl) (by kernel_rfl)
       simp [go_sem, ts]
       exact qB
      | 11, _ =>
       simp only [qS] at ho
       subst ho
       have ts : ρ (.tmp 92) = .pointer (some ⟨wr.heap.size, 8, none⟩) := zY 10 92 (by kernel_rfl) (by kernel_rfl)
       simp [go_sem, ts, b8]
       exact qB
      | 12, _ =>
       simp only [qS] at ho
       subst ho
       have t0 : ρ (.tmp 85) = .string (zW xn) := zY 3 85 (by kernel_rfl) (by kernel_rfl)
       have t1 : ρ (.tmp 90) = .int .i64 (vK ns tn) := zY 8 90 (by kernel_rfl) (by kernel_rfl)
       have t2 : ρ (.tmp 93) = .int .i64 tp := zY 11 93 (by kernel_rfl) (by kernel_rfl)
       simp [go_sem, t0, t1, t2]
       exact qB
      | 13, _ =>
       simp only [qS] at ho
       subst ho
       have t0 : ρ (.tmp 94) = .agg #[.string (zW xn), .int .i64 (vK ns tn), .int .i64 tp] := zY 12 94 (by kernel_rfl) (by kernel_rfl)
       simp [go_sem, t0]
       exact ⟨(Below.refl _ _).alloc (Nat.le_refl _) _, pG w' ⟨xn, vK ns tn, tp⟩⟩
     intro V9 w9 q9 hS
     have e0 : V9 0 = .pointer (some ⟨w.heap.size + 2, 3, none⟩) := hS 0 (by decide)
     have e1 : V9 1 = .slice x3 Ps.length d3 := hS 1 (by decide)
     have e2 : V9 2 = .pointer (some ⟨wr.heap.size, 1, none⟩) := hS 2 (by decide)
     have e3 : V9 3 = .string (zW xn) := hS 3 (by decide)
     have e4 : V9 4 = .agg #[.string (zW nm), .slice (some ⟨g, off, none⟩) n c] := hS 4 (by decide)
     have e5 : V9 5 = .pointer (some ⟨wr.heap.size, 7, none⟩) := hS 5 (by decide)
     have e6 : V9 6 = .pointer (some ⟨wr.heap.size, 7, none⟩) := hS 6 (by decide)
     have e7 : V9 7 = .string (zW tn) := hS 7 (by decide)
     have e8 : V9 8 = .int .i64 (vK ns tn) := hS 8 (by decide)
     have e9 : V9 9 = .pointer (some ⟨wr.heap.size, 7, none⟩) := hS 9 (by decide)
     have e10 : V9 10 = .pointer (some ⟨wr.heap.size, 8, none⟩) := hS 10 (by decide)
     have e11 : V9 11 = .int .i64 tp := hS 11 (by decide)
     have e12 : V9 12 = .agg #[.string (zW xn), .int .i64 (vK ns tn), .int .i64 tp] := hS 12 (by decide)
     obtain ⟨hx, e13, Q1⟩ : qY w9 ⟨xn, vK ns tn, tp⟩ (V9 13) := hS 13 (by decide)
     simp only [List.drop_succ_cons, List.drop_zero, List.take_succ_cons, List.take_zero, yL, e0, e1, e2, e3, e4, e5, e6, e7, e8, e9, e10, e11, e12, e13]
     clear hS e0 e1 e2 e3 e4 e5 e6 e7 e8 e9 e10 e11 e12 e13 V9
     simp only [Act.put, qU]
     have B5 := zZ q9
     have QC := zZ Q1
     clear q9 Q1 bb0 bb1 bb2 bb3 bb4 bb5 bb6 bb7 bb8 bb9 bb10 gg1 gg2 gg3 gg4 ss0 ss1
     have HLU : Hid (wI ns ⟨3, xn, xt, nu, ⟨fn, fp, fa⟩, ⟨tn, tp, ta⟩, pl⟩ = ⟨xn, vK ns tn, tp⟩) := by rfl
     go_wp2_with (at_builtin; refine zJ _ rfl (.tmp 83) (.tmp 95) 29 rfl B 83 iP (.agg #[.string ⟨#[]⟩, .int .i64 0, .int .i64 0]) 3 32 Try.underlying29 JP.out JP0.out JP1.out JP2.out rfl (by decide) (.slice x3 Ps.length d3) Ps.length (Ps.flatMap pP) rfl (zS DV.out.r3 B5.out) ⟨hx, 0, none⟩ 1 1 (by decide) (pP ⟨xn, vK ns tn, tp⟩) rfl rfl QC.out (jC _) (by unfold maxLen; omega) (by omega) (Nat.le_trans DV.out.big B5.out.size) ?_; intro v' w4 ho ht; obtain ⟨D10, bk⟩ := DV.out.put3 B5.out ho ht; obtain ⟨va4, vc4, rfl⟩ := yG ht; have E10 := zZ D10; have s1 : w4.cell? ⟨w.heap.size + 2, 3, none⟩ = some (.slice x3 Ps.length d3) := bk.cell rfl; have f1 := bk.frozen 3; clear ho ht D10 bk)
     go_roundg (n - (k + 1))
     case measure => omega
     case rel => exact ⟨k + 1, _, _, _, _, As, Es, Ps ++ [⟨xn, vK ns tn, tp⟩], Os, by omega, rfl, by go_num, E10.out, by rw [TK.out]; exact (by have r := LL.out.addI (x := ⟨3, xn, xt, nu, ⟨fn, fp, fa⟩, ⟨tn, tp, ta⟩, pl⟩) rfl hm; rw [HLU.out] at r; exact r)⟩
    have hmI : ¬ (Ps.length : Int) <= 16 := by omega
    go_wp2
    go_roundg (n - (k + 1))
    case measure => omega
    case rel => exact ⟨k + 1, _, _, _, _, As, Es, Ps, Os, by omega, rfl, by go_num, DV.out, by rw [TK.out]; exact LL.out.skipI (x := ⟨3, xn, xt, nu, ⟨fn, fp, fa⟩, ⟨tn, tp, ta⟩, pl⟩) rfl hm⟩
   by_cases hm : Os.length < 17
   ·have hmI : (Os.length : Int) <= 16 := by omega
    go_upto_region 18 with fail
    generalize wr.alloc (.cells #[.int .u8 4, .string (zW xn), .string (zW xt), .slice qa qn qc, .string (zW fn), .int .i64 fp, .int .i64 fa, .string (zW tn), .int .i64 tp, .int .i64 ta, .int .i64 pl] 45) = V at *
    clear c0 c1 c2 c3 c4 c5 c6 c7 c8 c9 c10 y1
    refine zP 14 (fun i u v => match i with
     | 0 => v = .pointer (some ⟨w.heap.size + 2, 4, none⟩)
     | 1 => v = .slice x4 Os.length d4
     | 2 => v = .pointer (some ⟨wr.heap.size, 1, none⟩)
     | 3 => v = .string (zW xn)
     | 4 => v = .agg #[.string (zW nm), .slice (some ⟨g, off, none⟩) n c]
     | 5 => v = .pointer (some ⟨wr.heap.size, 4, none⟩)
     | 6 => v = .pointer (some ⟨wr.heap.size, 4, none⟩)
     | 7 => v = .string (zW fn)
     | 8 => v = .int .i64 (vK ns fn)
     | 9 => v = .pointer (some ⟨wr.heap.size, 4, none⟩)
     | 10 => v = .pointer (some ⟨wr.heap.size, 5, none⟩)
     | 11 => v = .int .i64 fp
     | 12 => v = .agg #[.string (zW xn), .int .i64 (vK ns fn), .int .i64 fp]
     | 13 => qY u ⟨xn, vK ns fn, fp⟩ v
     | _ => True) (by kernel_rfl) (by kernel_rfl) (by kernel_rfl) (by kernel_rfl) ?_ ?_ ?_
    ·intro i w v w' h hb
     match i, h with
     | 0, h => exact h
     | 1, h => exact h
     | 2, h => exact h
     | 3, h => exact h
     | 4, h => exact h
     | 5, h => exact h
     | 6, h => exact h
     | 7, h => exact h
     | 8, h => exact h
     | 9, h => exact h
     | 10, h => exact h
     | 11, h => exact h
     | 12, h => exact h
     | 13, h => exact qY.later h hb
     | _ + 14, _ => trivial
    ·intro i o ρ w' hi ho hb hc hf hfr zY
     have b1 := zX hb bb1
     have b4 := zX hb bb4
     have b5 := zX hb bb5
     have g4 := zX hb gg4
     have s0 := zX hb ss0
     have s1 := zX hb ss1
     match i, hi with
     | 0, _ =>
      simp only [qS] at ho
      subst ho
      have ts : ρ (.tmp 3) = .pointer (some ⟨w.heap.size + 2, 0, none⟩) := hfr 3 (by kernel_rfl)
      simp [go_sem, ts]
      exact qB
     | 1, _ =>
      simp only [qS] at ho
      subst ho
      have ts : ρ (.tmp 104) = .pointer (some ⟨w.heap.size + 2, 4, none⟩) := zY 0 104 (by kernel_rfl) (by kernel_rfl)
      simp [go_sem, ts, g4]
      exact qB
     | 2, _ =>
      simp only [qS] at ho
      subst ho
      have ts : ρ (.tmp 5) = .pointer (some ⟨wr.heap.size, 0, none⟩) := hfr 5 (by kernel_rfl)
      simp [go_sem, ts]
      exact qB
     | 3, _ =>
      simp only [qS] at ho
      subst ho
      have ts : ρ (.tmp 106) = .pointer (some ⟨wr.heap.size, 1, none⟩) := zY 2 106 (by kernel_rfl) (by kernel_rfl)
      simp [go_sem, ts, b1]
      exact qB
     | 4, _ =>
      simp only [qS] at ho
      subst ho
      have ts : ρ (.tmp 1) = .pointer (some ⟨w.heap.size, 0, none⟩) := hfr 1 (by kernel_rfl)
      simp [go_sem, ts, s0, s1]
      exact qB
     | 5, _ =>
      simp only [qS] at ho
      subst ho
      have ts : ρ (.tmp 5) = .pointer (some ⟨wr.heap.size, 0, none⟩) := hfr 5 (by kernel_rfl)
      simp [go_sem, ts]
      exact qB
     | 6, _ =>
      simp only [qS] at ho
      subst ho
      have ts : ρ (.tmp 109) = .pointer (some ⟨wr.heap.size, 4, none⟩) := zY 5 109 (by kernel_rfl) (by kernel_rfl)
      simp [go_sem, ts]
      exact qB
     | 7, _ =>
      simp only [qS] at ho
      subst ho
      have ts : ρ (.tmp 110) = .pointer (some ⟨wr.heap.size, 4, none⟩) := zY 6 110 (by kernel_rfl) (by kernel_rfl)
      simp [go_sem, ts, b4]
      exact qB
     | 8, _ =>
      simp only [qS] at ho
      subst ho
      have t0 : ρ (.tmp 108) = .agg #[.string (zW nm), .slice (some ⟨g, off, none⟩) n c] := zY 4 108 (by kernel_rfl) (by kernel_rfl)
      have t1 : ρ (.tmp 111) = .string (zW fn) := zY 7 111 (by kernel_rfl) (by kernel_rfl)
      simp [go_sem, t0, t1, hf]
      exact ⟨rfl, (WH.out w' (BV.out.trans (hb.mono BV.out.size)) fn).mono fun e w'' hh => ⟨_, hh.1, hh.2, rfl⟩⟩
     | 9, _ =>
      simp only [qS] at ho
      subst ho
      have ts : ρ (.tmp 5) = .pointer (some ⟨wr.heap.size, 0, none⟩) := hfr 5 (by kernel_rfl)
      simp [go_sem, ts]
      exact qB
     | 10, _ =>
      simp only [qS] at ho
      subst ho
      have ts : ρ (.tmp 113) = .pointer (some ⟨wr.heap.size, 4, none⟩) := zY 9 113 (by kernel_rfl) (by kernel_rfl)
      simp [go_sem, ts]
      exact qB
     | 11, _ =>
      simp only [qS] at ho
      subst ho
      have ts : ρ (.tmp 114) = .pointer (some ⟨wr.heap.size, 5, none⟩) := zY 10 114 (by kernel_rfl) (by kernel_rfl)
      simp [go_sem, ts, b5]
      exact qB
     | 12, _ =>
      simp only [qS] at ho
      subst ho
      have t0 : ρ (.tmp 107) = .string (zW xn) := zY 3 107 (by kernel_rfl) (by kernel_rfl)
      have t1 : ρ (.tmp 112) = .int .i64 (vK ns fn) := zY 8 112 (by kernel_rfl) (by kernel_rfl)
      have t2 : ρ (.tmp 115) = .int .i64 fp := zY 11 115 (by kernel_rfl) (by kernel_rfl)
      simp [go_sem, t0, t1, t2]
      exact qB
     | 13, _ =>
      simp only [qS] at ho
      subst ho
      have t0 : ρ (.tmp 116) = .agg #[.string (zW xn), .int .i64 (vK ns fn), .int .i64 fp] := zY 12 116 (by kernel_rfl) (by kernel_rfl)
      simp [go_sem, t0]
      exact ⟨(Below.refl _ _).alloc (Nat.le_refl _) _, pG w' ⟨xn, vK ns fn, fp⟩⟩
    intro V9 w9 q9 hS
    have e0 : V9 0 = .pointer (some ⟨w.heap.size + 2, 4, none⟩) := hS 0 (by decide)
    have e1 : V9 1 = .slice x4 Os.length d4 := hS 1 (by decide)
    have e2 : V9 2 = .pointer (some ⟨wr.heap.size, 1, none⟩) := hS 2 (by decide)
    have e3 : V9 3 = .string (zW xn) := hS 3 (by decide)
    have e4 : V9 4 = .agg #[.string (zW nm), .slice (some ⟨g, off, none⟩) n c] := hS 4 (by decide)
    have e5 : V9 5 = .pointer (some ⟨wr.heap.size, 4, none⟩) := hS 5 (by decide)
    have e6 : V9 6 = .pointer (some ⟨wr.heap.size, 4, none⟩) := hS 6 (by decide)
    have e7 : V9 7 = .string (zW fn) := hS 7 (by decide)
    have e8 : V9 8 = .int .i64 (vK ns fn) := hS 8 (by decide)
    have e9 : V9 9 = .pointer (some ⟨wr.heap.size, 4, none⟩) := hS 9 (by decide)
    have e10 : V9 10 = .pointer (some ⟨wr.heap.size, 5, none⟩) := hS 10 (by decide)
    have e11 : V9 11 = .int .i64 fp := hS 11 (by decide)
    have e12 : V9 12 = .agg #[.string (zW xn), .int .i64 (vK ns fn), .int .i64 fp] := hS 12 (by decide)
    obtain ⟨hx, e13, Q1⟩ : qY w9 ⟨xn, vK ns fn, fp⟩ (V9 13) := hS 13 (by decide)
    simp only [List.drop_succ_cons, List.drop_zero, List.take_succ_cons, List.take_zero, yL, e0, e1, e2, e3, e4, e5, e6, e7, e8, e9, e10, e11, e12, e13]
    clear hS e0 e1 e2 e3 e4 e5 e6 e7 e8 e9 e10 e11 e12 e13 V9
    simp only [Act.put, qU]
    have B5 := zZ q9
    have QC := zZ Q1
    clear q9 Q1 bb0 bb1 bb2 bb3 bb4 bb5 bb6 bb7 bb8 bb9 bb10 gg1 gg2 gg3 gg4 ss0 ss1
    have HLU : Hid (wO ns ⟨4, xn, xt, nu, ⟨fn, fp, fa⟩, ⟨tn, tp, ta⟩, pl⟩ = ⟨xn, vK ns fn, fp⟩) := by rfl
    go_wp2_with (at_builtin; refine zJ _ rfl (.tmp 105) (.tmp 117) 29 rfl B 83 iP (.agg #[.string ⟨#[]⟩, .int .i64 0, .int .i64 0]) 3 32 Try.underlying29 JP.out JP0.out JP1.out JP2.out rfl (by decide) (.slice x4 Os.length d4) Os.length (Os.flatMap pP) rfl (zS DV.out.r4 B5.out) ⟨hx, 0, none⟩ 1 1 (by decide) (pP ⟨xn, vK ns fn, fp⟩) rfl rfl QC.out (jC _) (by unfold maxLen; omega) (by omega) (Nat.le_trans DV.out.big B5.out.size) ?_; intro v' w4 ho ht; obtain ⟨D10, bk⟩ := DV.out.put4 B5.out ho ht; obtain ⟨va4, vc4, rfl⟩ := yG ht; have E10 := zZ D10; have s1 : w4.cell? ⟨w.heap.size + 2, 4, none⟩ = some (.slice x4 Os.length d4) := bk.cell rfl; have f1 := bk.frozen 4; clear ho ht D10 bk)
    go_roundg (n - (k + 1))
    case measure => omega
    case rel => exact ⟨k + 1, _, _, _, _, As, Es, Ps, Os ++ [⟨xn, vK ns fn, fp⟩], by omega, rfl, by go_num, E10.out, by rw [TK.out]; exact (by have r := LL.out.addO (x := ⟨4, xn, xt, nu, ⟨fn, fp, fa⟩, ⟨tn, tp, ta⟩, pl⟩) rfl hm; rw [HLU.out] at r; exact r)⟩
   have hmI : ¬ (Os.length : Int) <= 16 := by omega
   go_wp2
   go_roundg (n - (k + 1))
   case measure => omega
   case rel => exact ⟨k + 1, _, _, _, _, As, Es, Ps, Os, by omega, rfl, by go_num, DV.out, by rw [TK.out]; exact LL.out.skipO (x := ⟨4, xn, xt, nu, ⟨fn, fp, fa⟩, ⟨tn, tp, ta⟩, pl⟩) rfl hm⟩
  have hki : ¬ (k : Int) < (n : Int) := by omega
  have s0 : wr.cell? ⟨w.heap.size + 2, 0, none⟩ = some (.string (zW nm)) := DD.out.gb.cell rfl
  have s1 : wr.cell? ⟨w.heap.size + 2, 1, none⟩ = some (.slice x1 As.length d1) := DD.out.gb.cell rfl
  have s2 : wr.cell? ⟨w.heap.size + 2, 2, none⟩ = some (.slice x2 Es.length d2) := DD.out.gb.cell rfl
  have s3 : wr.cell? ⟨w.heap.size + 2, 3, none⟩ = some (.slice x3 Ps.length d3) := DD.out.gb.cell rfl
  have s4 : wr.cell? ⟨w.heap.size + 2, 4, none⟩ = some (.slice x4 Os.length d4) := DD.out.gb.cell rfl
  go_wp2_with (refine zM _ rfl 31 (.tmp 2) (.tmp 120) rfl rfl (w.heap.size + 1) 31 _ _ rfl rfl DD.out.rb qZ rfl rfl ?_; intro w8 hN hU; have N8 := zZ hN; have U8 := zZ hU; clear hN hU)
  have t0 : w8.cell? ⟨w.heap.size + 1, 0, none⟩ = some (.string (zW nm)) := N8.out.cell rfl
  have t1 : w8.cell? ⟨w.heap.size + 1, 1, none⟩ = some (.slice x1 As.length d1) := N8.out.cell rfl
  have t2 : w8.cell? ⟨w.heap.size + 1, 2, none⟩ = some (.slice x2 Es.length d2) := N8.out.cell rfl
  have t3 : w8.cell? ⟨w.heap.size + 1, 3, none⟩ = some (.slice x3 Ps.length d3) := N8.out.cell rfl
  have t4 : w8.cell? ⟨w.heap.size + 1, 4, none⟩ = some (.slice x4 Os.length d4) := N8.out.cell rfl
  refine bodyPost_ret (v := .agg #[.string (zW nm), .slice x1 As.length d1, .slice x2 Es.length d2, .slice x3 Ps.length d3, .slice x4 Os.length d4]) (by simp [results, Try.results19, go_sem, t0, t1, t2, t3, t4]) rfl ?_
  have d := DD.out
  have hs := d.bel.size
  have hBB := d.hB
  have lo : w.heap.size <= B := by omega
  have kp : ∀ {T c n : Nat} {v : Value} {xs : List Value}, wr.ownsRow B T c v n xs -> w8.ownsRow w.heap.size T c v n xs := fun r => xK (zV r fun k e => U8.out.block k (zR r k e) (fun q => by have := zT r k e; omega)) lo
  refine ⟨_, _, _, _, As, Es, Ps, Os, rfl, kp d.r1, kp d.r2, kp d.r3, kp d.r4, ?_, fun p hp => ⟨(d.pa p hp).1, (d.pa p hp).2.1, kp (d.pa p hp).2.2⟩, fun p hp => ⟨(d.pe p hp).1, kp (d.pe p hp).2⟩, d.bel.trans (U8.out.below (Nat.le_succ _) d.bel.size)⟩
  have r := LL.out
  rw [List.take_of_length_le (by rw [List.length_map, HL.out]; omega)] at r
  rw [HNS.out]
  exact r
def gC (w : World) (n : Nat) (L : List (yO × Value)) (e : Ending) (w' : World) : Prop := ∃ b, e = .returned (.bool b) /\ (b = false -> n <= 1048576 /\ ∀ p ∈ L, p.1.nums.length <= 1048576) /\ Below w.heap.size w w'
theorem bP (nm : List UInt8) (a : Option Addr) (n c : Nat) (L : List (yO × Value)) (w : World) (h : mC w a n L) :
 Calls Try.prog 4 #[.agg #[.string (zW nm), .slice a n c]] w (gC w n L) := by
 have hb0 := (Below.refl w.heap.size w).alloc (Nat.le_refl _) (.cells #[.string (zW nm), .slice a n c] 24)
 have HB0 := zZ hb0
 have HK0 := zZ (zU 24 w #[.string (zW nm), .slice a n c])
 have HA0 := zZ (h.below hb0)
 have hn := h.size
 have hr := h.reach
 have hnI : (n : Int) <= 140737488351232 := by omega
 clear h hb0
 go_enter Try.func4, Try.ntmps4
 go_wp2
 go_loopg [3, 4] n (fun gk sv v wr => ∃ (k s : Nat), k <= n /\ gk = n - k /\ v = .int .i64 (k : Int) /\ sv = .int .i64 (s : Int) /\ n <= s /\ s <= 562949953421312 /\ (∀ j, j < k -> (yV L j).1.nums.length <= s) /\ Below w.heap.size w wr /\ zN 24 w.heap.size wr #[.string (zW nm), .slice a n c] /\ mC wr a n L)
 case atStart => exact ⟨0, n, Nat.zero_le _, rfl, rfl, rfl, Nat.le_refl _, by omega, fun j hj => by omega, HB0.out, HK0.out, HA0.out⟩
 case round =>
  clear HB0 HK0 HA0
  obtain ⟨k, s, hk, rfl, rfl, rfl, hns, hs, hall, hbe, hbk, hA⟩ := hrel
  have HBE := zZ hbe
  have HBK := zZ hbk
  have HA := zZ hA
  have HALL := zZ hall
  have y1 : wr.cell? ⟨w.heap.size, 1, none⟩ = some (.slice a n c) := hbk.cell (k := 1) rfl
  clear hbe hbk hA hall
  have hsI : (s : Int) <= 562949953421312 := by omega
  by_cases hlt : k < n /\ s <= 1048576
  ·obtain ⟨hlt, hs2⟩ := hlt
   have hki : (k : Int) < (n : Int) := by omega
   have hsj : (s : Int) <= 1048576 := by omega
   rcases HA.out.lies.lie with e | ⟨g, off, rfl, hc⟩
   ·rw [e] at hn; simp at hn; omega
   have c3 := (hc k (by omega)).c3
   obtain ⟨a1, k1, e2, -⟩ := HA.out.lies.nums _ (yJ (L := L) (k := k) (by omega))
   rw [e2] at c3
   have hm := HA.out.nums _ (yJ (L := L) (k := k) (by omega))
   have HAL2 : Hid (∀ j, j < k + 1 -> (yV L j).1.nums.length <= s + (yV L k).1.nums.length) := fun j hj => by
    by_cases e : j < k
    ·have := HALL.out j e; omega
    have : j = k := by omega
    subst this; omega
   clear hc e2
   generalize hm2 : (yV L k).1.nums.length = m at *
   have hmI : (m : Int) <= 140737488351232 := by omega
   have hs0 : (0 : Int) <= (s : Int) := by omega
   have hm0 : (0 : Int) <= (m : Int) := by omega
   go_wp2
   go_roundg (n - (k + 1))
   case measure => omega
   case rel => exact ⟨k + 1, s + m, by omega, rfl, by go_num, by go_num, by omega, by omega, HAL2.out, HBE.out, HBK.out, HA.out⟩
  by_cases hkn : k < n
  ·have hki : (k : Int) < (n : Int) := by omega
   have hsj : ¬ ((s : Int) <= 1048576) := by omega
   have hsk : (s : Int) > 1048576 := by omega
   go_wp2
   go_ret
   exact ⟨true, by first | rfl | (simp; omega), (fun e => by cases e), HBE.out⟩
  have ek : k = n := by omega
  subst ek
  have hki : ¬ ((k : Int) < (k : Int)) := by omega
  by_cases hs3 : s <= 1048576
  ·have hsk : ¬ ((s : Int) > 1048576) := by omega
   go_wp2
   go_ret
   refine ⟨false, by first | rfl | (simp; omega), fun _ => ⟨by omega, fun p hp => ?_⟩, HBE.out⟩
   obtain ⟨j, hj, rfl⟩ := List.mem_iff_getElem.1 hp
   have := HALL.out j (by omega)
   have e : yV L j = L[j] := by unfold yV; rw [List.getD_eq_getElem?_getD, List.getElem?_eq_getElem hj]; rfl
   rw [e] at this
   omega
  have hsk : (s : Int) > 1048576 := by omega
  go_wp2
  go_ret
  exact ⟨true, by first | rfl | (simp; omega), (fun e => by cases e), HBE.out⟩
theorem Try.cells5PL : Try.prog.cellsOf 43 = 3 := by kernel_rfl
theorem Try.cells5IT : Try.prog.cellsOf 45 = 11 := by kernel_rfl
theorem Try.cells5SK : Try.prog.cellsOf 24 = 2 := by kernel_rfl
theorem Try.cells5IS : Try.prog.cellsOf 22 = 1 := by kernel_rfl
theorem Try.cells5SL : Try.prog.cellsOf 41 = 1 := by kernel_rfl
theorem Try.cells59 : Try.prog.cellsOf 9 = 1 := by kernel_rfl
theorem Try.cells53 : Try.prog.cellsOf 3 = 1 := by kernel_rfl
theorem Try.bytes5IT : Try.prog.bytesOf 45 = 136 := by kernel_rfl
theorem Try.bytes53 : Try.prog.bytesOf 3 = 8 := by kernel_rfl
theorem VP {α : Type} {n : Nat} {p : Nat -> α -> Prop} (d : α) (h : ∀ i, i < n -> ∃ a, p i a) : ∃ f : Nat -> α, ∀ i, i < n -> p i (f i) :=
 ⟨fun i => if hi : i < n then (h i hi).choose else d, fun i hi => by simp only [hi, dif_pos]; exact (h i hi).choose_spec⟩
theorem gB {W : World} {x : Addr} {v : Value} (h : W.cell? (x.add 0) = some v) : x.spot = none := by
 obtain ⟨b, off, sp⟩ := x
 cases sp with
 | none => rfl
 | some s => simp [World.cell?, Addr.add] at h; split at h <;> cases h
section
variable {H : Type} {enc : TypeId × Value -> H} {W : World} {base : Nat} {held : Bool}
theorem gA {P : Program} {e : TypeId} {q : Nat -> Bool} : ∀ {l : List (DataW H)} {d : DataW H}, d ∈ l -> (DataW.weightsAll P e l).all q = true -> (d.weights P e).all q = true
 | [], _, h, _ => by simp at h
 | d0 :: l, d, h, hw => by
  simp only [DataW.weightsAll, List.all_append, Bool.and_eq_true] at hw
  rcases List.mem_cons.1 h with rfl | h
  ·exact hw.1
  exact gA h hw.2
structure ItZ (W : World) (p : yO × Value) : Prop where
 ints : vR W p.2 p.1.nums
 nums : p.1.nums.length <= 140737488351232
 shp : ∃ b d, p.2 = .slice b p.1.nums.length d /\ (b = none -> p.1.nums.length = 0 /\ d = 0) /\ p.1.nums.length <= d
 fits : (-9223372036854775808 <= p.1.frm.port /\ p.1.frm.port <= 9223372036854775807) /\ (-9223372036854775808 <= p.1.tgt.port /\ p.1.tgt.port <= 9223372036854775807) /\ ∀ x ∈ p.1.nums, -9223372036854775808 <= x /\ x <= 9223372036854775807
theorem bN {n : Nat} {v : Value} {y : DataW H × List MemPlace} (h : DataW.trod enc Try.prog W base (fun _ => true) held n 41 [v] = some y) (hw : (y.1.weights Try.prog 41).all (· <= reachBytes) = true) :
 ∃ ns : List Int, vR W v ns /\ ns.length <= 140737488351232 /\ (∃ b d, v = .slice b ns.length d /\ (b = none -> ns.length = 0 /\ d = 0) /\ ns.length <= d) /\ ∀ x ∈ ns, -9223372036854775808 <= x /\ x <= 9223372036854775807 := by
 rcases open_ints Try.underlying41 Try.underlying3 Try.cells53 h with ⟨h1, -⟩ | ⟨a, len, cap, zs, h1, -, hl, -, hz, hx, hc, hb⟩
 ·simp only [List.cons.injEq, and_true] at h1
  subst h1
  exact ⟨[], ⟨none, 0, rfl, .inl rfl⟩, by decide, ⟨none, 0, rfl, fun _ => ⟨rfl, rfl⟩, Nat.le_refl _⟩, fun x hx => by cases hx⟩
 simp only [List.cons.injEq, and_true] at h1
 subst h1
 simp only [if_true] at hz
 have hl2 : (zs.take len).length = len := by rw [List.length_take]; omega
 have hr : len <= 140737488351232 := by
  rw [hx] at hw
  simp only [DataW.weights, Try.underlying41, List.all_cons, Bool.and_eq_true, decide_eq_true_eq, Try.bytes53] at hw
  have := hw.1
  simp only [reachBytes, lits, List.length_map, List.length_take, List.length_drop] at this
  omega
 refine ⟨zs.take len, ?_, by omega, ⟨some a, cap, by rw [hl2], (fun e => by cases e), by omega⟩, fun x hx => bounds_i64 (hb x (List.mem_of_mem_take hx))⟩
 refine ⟨some a, cap, by rw [hl2], ?_⟩
 by_cases h0 : 0 < len
 ·have hs := gB (hc 0 (by omega))
  obtain ⟨b, off, sp⟩ := a
  simp only at hs
  subst hs
  refine .inr ⟨b, off, rfl, fun k hk => ?_⟩
  rw [hl2] at hk
  have := hc k (by omega)
  rw [Addr.add_lit] at this
  rw [this, List.getD_eq_getElem?_getD, List.getD_eq_getElem?_getD, List.getElem?_take_of_lt hk]
 left
 have e : len = 0 := by omega
 rw [e]; rfl
end
def TN (x : yO) : Prop := x.name.length <= 140737488355328 /\ x.frm.name.length <= 140737488355328 /\ x.tgt.name.length <= 140737488355328
section
variable {H : Type} {enc : TypeId × Value -> H} {W : World} {base : Nat} {held : Bool}
theorem nU {n : Nat} {cs : List Value} {y : DataW H × List MemPlace} (h : DataW.trod enc Try.prog W base (fun _ => true) held n 43 cs = some y) (hw : (y.1.weights Try.prog 43).all (· <= reachBytes) = true) :
 ∃ p : UA, cs = [.string (zW p.name), .int .i64 p.port, .int .i64 p.place] /\ (-9223372036854775808 <= p.port /\ p.port <= 9223372036854775807) /\ p.name.length <= 140737488355328 := by
 obtain ⟨xs, k, hk, hxy, hcl, hxl, hf⟩ := DataW.trod_struct Try.underlying43 h
 rw [Try.cells5PL] at hcl
 match xs, hxl, cs, hcl with
 | [y0, y1, y2], _, [v0, v1, v2], _ =>
  have g0 := hf 0 _ rfl
  have g1 := hf 1 _ rfl
  have g2 := hf 2 _ rfl
  simp [Try.cells59, Try.cells53] at g0 g1 g2
  have hw0 : (y0.1.weights Try.prog 9).all (· <= reachBytes) = true := by
   rw [hxy] at hw
   simp only [DataW.weights, Try.underlying43] at hw
   rw [List.all_eq_true] at hw ⊢
   exact fun m hm => hw m (DataW.weights_mem_each (j := 0) (t := 9) (d := y0.1) rfl rfl m hm)
  obtain ⟨z0, q0, e0, -⟩ := DataW.trod_string Try.underlying9 g0
  rw [e0] at hw0
  have lz0 : z0.data.toList.length <= 140737488355328 := by
   have hx := List.all_eq_true.1 hw0 z0.data.toList.length (by simp [DataW.weights])
   have hy := of_decide_eq_true hx
   unfold reachBytes at hy
   omega
  obtain ⟨z1, q1, -, b1⟩ := DataW.trod_int Try.underlying3 g1
  obtain ⟨z2, q2, -, -⟩ := DataW.trod_int Try.underlying3 g2
  simp only [List.cons.injEq, and_true] at q0 q1 q2
  subst q0 q1 q2
  exact ⟨⟨z0.data.toList, z1, z2⟩, rfl, bounds_i64 b1, lz0⟩
end
end Go.Proofs.Ytgoconkleicmkaa
