/- Texts of one chain. -/
import Derived.Test.YtgoconkleicmkaaPartGraphBuilds37
import Derived.Test.YtgoconkleicmkaaPartGraphBuilds36
namespace Go.Proofs.Ytgoconkleicmkaa
open Go.ChangeShapes Go.WideShapes Go.ChangeAt Go.RowKit
theorem YJ {w : World} {a : Option Addr} {n : Nat} {L : List (yO × Value)} (h : mC w a n L) (hm : ∀ p ∈ L, p.1.nums.length <= 1048576) (hz : ∀ p ∈ L, TN p.1) : bZ w L := by
 refine ⟨fun p hp => ?_, hz⟩
 obtain ⟨b, d, e, hn, hr⟩ := h.shp p hp
 have hi := h.lies.nums p hp
 rw [e] at hi
 exact ⟨_, _, e, pI hi hn hr (hm p hp) (h.fits p hp).2.2⟩
theorem bD {w w' : World} {a a' : Option Addr} {n B : Nat} {L M : List (yO × Value)} (h : mC w a n L) (hm : ∀ p ∈ L, p.1.nums.length <= 1048576) (hz : ∀ p ∈ L, TN p.1) (h2 : M.map Prod.fst = L.map Prod.fst) (h4 : nS w' a' (M ++ [(oZ, Value.slice none 0 0)])) (h5 : LM B w' M) : bZ w' M := by
 refine ⟨fun p hp => ?_, fun p hp => ?_⟩
 ·obtain ⟨q, hq, e⟩ := fU h2 hp
  obtain ⟨g, -, -, e2, -⟩ := h5 p hp
  have hi := h4.pre.nums p hp
  rw [e2] at hi
  exact ⟨_, _, e2, pI hi (fun e => by cases e) (by omega) (by rw [<- e]; exact hm q hq) (by rw [<- e]; exact (h.fits q hq).2.2)⟩
 obtain ⟨q, hq, e⟩ := fU h2 hp
 rw [<- e]
 exact hz q hq
theorem eG {U : World} {G : GG} {B : Nat} {x1 x2 x3 x4 z1 z2 z3 z4 : Option Addr} {d1 d2 d3 d4 f1 f2 f3 f4 : Nat} {As : List (GA × Value)} {Es : List (GE × Value)} (h1 : BO B U G x1 x2 x3 x4 d1 d2 d3 d4 As Es) (h2 : sH U z1 z2 z3 z4 G) (l1 : G.A.length <= 32) (l2 : G.E.length <= 96) (l3 : G.ins.length <= 16) (l4 : G.outs.length <= 16) :
 Calls Try.prog 8 #[.agg #[.string (zW G.name), .slice x1 G.A.length d1, .slice x2 G.E.length d2, .slice x3 G.ins.length d3, .slice x4 G.outs.length d4], .agg #[.string (zW G.name), .slice z1 G.A.length f1, .slice z2 G.E.length f2, .slice z3 G.ins.length f3, .slice z4 G.outs.length f4]] U fun e w' => e = .returned (.bool true) /\ Below U.heap.size U w' := by
 have g := h1.gr l1 l2 l3 l4
 have q := VL h2
 exact qM G x1 x2 x3 x4 z1 z2 z3 z4 d1 d2 d3 d4 f1 f2 f3 f4 U g.A.at g.E.at g.I g.O h2.A.at h2.E.at h2.I h2.O g.l1 g.l2 g.l3 g.l4 q.1 q.2
set_option maxRecDepth 100000 in
set_option maxHeartbeats 32000000 in
theorem oD (nm : List UInt8) (a : Option Addr) (n c : Nat) (L : List (yO × Value)) (w : World) (h : mC w a n L) (hz : ∀ p ∈ L, TN p.1) :
 Calls Try.prog 3 #[.agg #[.string (zW nm), .slice a n c]] w fun e w' => e = .returned (.bool true) /\ Below w.heap.size w w' := by
 have ba := (Below.refl w.heap.size w).alloc (Nat.le_refl _) (.cells #[.string (zW nm), .slice a n c] 24)
 have BA := zZ ba
 have X0 := zZ (zU 24 w #[.string (zW nm), .slice a n c])
 have HA := zZ h
 have HL := zZ h.size
 have HZ := zZ hz
 have HVY := zZ (bP nm a n c L _ (h.below ba))
 have AW : Hid (∀ U, Calls Try.prog 10 #[] U fun e w' => e = .returned (.bool true) /\ Below U.heap.size U w') := fun U => TR U
 have y0 : (w.alloc (.cells #[.string (zW nm), .slice a n c] 24)).cell? ⟨w.heap.size, 0, none⟩ = some (.string (zW nm)) := X0.out.cell rfl
 have y1 : (w.alloc (.cells #[.string (zW nm), .slice a n c] 24)).cell? ⟨w.heap.size, 1, none⟩ = some (.slice a n c) := X0.out.cell rfl
 unfold gC at HVY
 clear ba h hz
 go_enter Try.func3, Try.ntmps3
 go_upto_region 1 with fail
 generalize w.alloc (.cells #[.string (zW nm), .slice a n c] 24) = W0 at *
 go_upto_region 3 with (go_at_call 4; (with_reducible refine HVY.out.mono ?_); rintro e W1 ⟨bv, rfl, hL, b1⟩; have L1 := zZ (BA.out.trans (b1.mono BA.out.size)); have X1 := zZ (X0.out.below b1); have HLT := zZ hL; clear b1 hL y0 y1; cases bv)
 rotate_left
 ·go_ret
  exact ⟨rfl, L1.out⟩
 obtain ⟨hn, hm⟩ := HLT.out (by first | trivial | rfl)
 have HM := zZ hm
 have LN : Hid (Calls Try.prog 5 #[.agg #[.string (zW nm), .slice a n c]] W1 (YP W1 nm n L)) := eK nm a n c L W1 (HA.out.below L1.out) hn HM.out
 unfold YP at LN
 clear HLT X0 BA HVY hm
 have y0 : W1.cell? ⟨w.heap.size, 0, none⟩ = some (.string (zW nm)) := X1.out.cell rfl
 have y1 : W1.cell? ⟨w.heap.size, 1, none⟩ = some (.slice a n c) := X1.out.cell rfl
 go_upto_region 4 with (go_at_call 5; (with_reducible refine LN.out.mono ?_); rintro e w2 ⟨la, lc, M, rfl, hM, hML, hI, hLM, hc, b2⟩; have HMP := zZ hM; have HML := zZ hML; have HIR := zZ hI; have HLM := zZ hLM; have HC := zZ hc; have L2 := zZ (L1.out.trans (b2.mono L1.out.size)); have X2 := zZ (X1.out.below b2); clear hM hML hI hLM hc b2 y0 y1)
 have bv := (Below.refl w2.heap.size w2).alloc (Nat.le_refl _) (.cells #[.string (zW nm), .slice la n lc] 24)
 have Y3 := zZ (zU 24 w2 #[.string (zW nm), .slice la n lc])
 have L3 := zZ (L2.out.trans (bv.mono L2.out.size))
 have X3 := zZ (X2.out.below bv)
 have I3 := zZ (HIR.out.below bv)
 have M3 := zZ (HLM.out.below bv)
 have O3 := zZ ((bD HA.out HM.out HZ.out HMP.out HIR.out HLM.out).below bv)
 clear bv LN L1 X1 L2 X2 HIR HLM
 generalize hb7 : w2.heap.size = t3 at *
 clear hb7
 generalize w2.alloc (.cells #[.string (zW nm), .slice la n lc] 24) = V at *
 obtain ⟨cd, pl, hB⟩ : ∃ cd pl, (yI nm (L.map Prod.fst)).2 = (cd, pl) := ⟨_, _, rfl⟩
 obtain ⟨G, hG⟩ : ∃ G, bG nm (L.map Prod.fst) = G := ⟨_, rfl⟩
 obtain ⟨l1, l2, l3, l4⟩ := TE nm (L.map Prod.fst)
 rw [hG] at l1 l2 l3 l4
 have BP : Hid (∀ U, Below V.heap.size V U -> Calls Try.prog 6 #[.agg #[.string (zW nm), .slice la n lc]] U (TD U G cd pl)) := fun U hU => by
  rw [<- hG]
  exact VK nm la n lc M U HML.out (I3.out.pre.below hU) (O3.out.below hU) (by omega) HMP.out hB
 have BR : Hid (∀ U, Below V.heap.size V U -> Calls Try.prog 7 #[.agg #[.string (zW nm), .slice a n c]] U (TC U G cd pl)) := fun U hU => by
  have hUw := L3.out.trans (hU.mono L3.out.size)
  rw [<- hG]
  exact YK nm a n c L U HL.out (HA.out.below hUw).lies (YJ (HA.out.below hUw) HM.out HZ.out) (by omega) hB
 have KP : Hid (∀ U, Below V.heap.size V U -> Calls Try.prog 9 #[.agg #[.string (zW nm), .slice la n lc], .agg #[.string (zW nm), .slice a n c]] U fun e w' => e = .returned (.bool true) /\ Below U.heap.size U w') := fun U hU => bE nm la a n lc c _ M L U HML.out HMP.out (I3.out.below hU) (M3.out.below hU) HC.out (HA.out.below (L3.out.trans (hU.mono L3.out.size))) hn HM.out
 have SB : Hid (∀ (U : World) (B : Nat) (x1 x2 x3 x4 z1 z2 z3 z4 : Option Addr) (d1 d2 d3 d4 f1 f2 f3 f4 : Nat) (As : List (GA × Value)) (Es : List (GE × Value)), BO B U G x1 x2 x3 x4 d1 d2 d3 d4 As Es -> sH U z1 z2 z3 z4 G -> Calls Try.prog 8 #[.agg #[.string (zW G.name), .slice x1 G.A.length d1, .slice x2 G.E.length d2, .slice x3 G.ins.length d3, .slice x4 G.outs.length d4], .agg #[.string (zW G.name), .slice z1 G.A.length f1, .slice z2 G.E.length f2, .slice z3 G.ins.length f3, .slice z4 G.outs.length f4]] U fun e w' => e = .returned (.bool true) /\ Below U.heap.size U w') := fun U B x1 x2 x3 x4 z1 z2 z3 z4 d1 d2 d3 d4 f1 f2 f3 f4 As Es h1 h2 => eG h1 h2 l1 l2 l3 l4
 have AG : Hid (∀ (B1 B2 : Nat) (u1 U : World) (x1 x2 x3 x4 z1 z2 z3 z4 : Option Addr) (d1 d2 d3 d4 f1 f2 f3 f4 : Nat) (As Bs : List (GA × Value)) (Es Fs : List (GE × Value)), BO B1 u1 G x1 x2 x3 x4 d1 d2 d3 d4 As Es -> Below u1.heap.size u1 U -> BO B2 U G z1 z2 z3 z4 f1 f2 f3 f4 Bs Fs -> B1 <= u1.heap.size -> u1.heap.size <= B2 -> B2 <= U.heap.size -> Calls Try.prog 11 #[.agg #[.string (zW G.name), .slice x1 G.A.length d1, .slice x2 G.E.length d2, .slice x3 G.ins.length d3, .slice x4 G.outs.length d4], .agg #[.string (zW G.name), .slice z1 G.A.length f1, .slice z2 G.E.length f2, .slice z3 G.ins.length f3, .slice z4 G.outs.length f4]] U fun e w' => e = .returned (.bool true) /\ Below B1 U w') := fun B1 B2 u1 U x1 x2 x3 x4 z1 z2 z3 z4 d1 d2 d3 d4 f1 f2 f3 f4 As Bs Es Fs h1 b1 h2 hB1 hb1 hU1 => fT h1 b1 h2 hB1 hb1 hU1 l1 l2 l3 l4
 unfold TD at BP
 unfold TC at BR
 clear hB hG HML HMP I3 M3 O3 HC HA HL HZ HM l1 l2 l3 l4
 obtain ⟨k1, hk1⟩ : ∃ q, G.A.length = q := ⟨_, rfl⟩
 obtain ⟨k2, hk2⟩ : ∃ q, G.E.length = q := ⟨_, rfl⟩
 obtain ⟨k3, hk3⟩ : ∃ q, G.ins.length = q := ⟨_, rfl⟩
 obtain ⟨k4, hk4⟩ : ∃ q, G.outs.length = q := ⟨_, rfl⟩
 obtain ⟨gn, hgn⟩ : ∃ q, G.name = q := ⟨_, rfl⟩
 rw [hk1, hk2, hk3, hk4, hgn] at BP BR SB AG
 clear hk1 hk2 hk3 hk4 hgn
 have V0 := zZ (Below.refl V.heap.size V)
 have y0 : V.cell? ⟨t3, 0, none⟩ = some (.string (zW nm)) := Y3.out.cell rfl
 have y1 : V.cell? ⟨t3, 1, none⟩ = some (.slice la n lc) := Y3.out.cell rfl
 go_upto_region 5 with (go_at_call 6; (with_reducible refine (BP.out V V0.out).mono ?_); rintro e u1 ⟨x1, x2, x3, x4, d1, d2, d3, d4, As, Es, rfl, hO, bb⟩; have J1 := zZ hO; have b1 := bb; clear hO bb y0 y1)
 have c1 := (Below.refl u1.heap.size u1).alloc (Nat.le_refl _) (.cells #[.string (zW gn), .slice x1 k1 d1, .slice x2 k2 d2, .slice x3 k3 d3, .slice x4 k4 d4] 31)
 have c2 := (Below.refl _ _).alloc (Nat.le_refl _) (.cells #[.int .i64 cd, .int .i64 pl] 34) (w := u1.alloc (.cells #[.string (zW gn), .slice x1 k1 d1, .slice x2 k2 d2, .slice x3 k3 d3, .slice x4 k4 d4] 31))
 have bv := c1.trans (c2.mono c1.size)
 have P1 := zZ ((zU 31 u1 #[.string (zW gn), .slice x1 k1 d1, .slice x2 k2 d2, .slice x3 k3 d3, .slice x4 k4 d4]).below c2)
 have Q1 : Hid (zN 34 (u1.heap.size + 1) ((u1.alloc (.cells #[.string (zW gn), .slice x1 k1 d1, .slice x2 k2 d2, .slice x3 k3 d3, .slice x4 k4 d4] 31)).alloc (.cells #[.int .i64 cd, .int .i64 pl] 34)) #[.int .i64 cd, .int .i64 pl]) := by
  have r := zU 34 (u1.alloc (.cells #[.string (zW gn), .slice x1 k1 d1, .slice x2 k2 d2, .slice x3 k3 d3, .slice x4 k4 d4] 31)) #[.int .i64 cd, .int .i64 pl]
  rw [World.size_alloc] at r
  exact r
 have bt := b1.trans (bv.mono b1.size)
 have V1 := zZ (V0.out.trans (bt.mono V0.out.size))
 have BB1 : Hid (Below u1.heap.size u1 ((u1.alloc (.cells #[.string (zW gn), .slice x1 k1 d1, .slice x2 k2 d2, .slice x3 k3 d3, .slice x4 k4 d4] 31)).alloc (.cells #[.int .i64 cd, .int .i64 pl] 34))) := bv
 have Z1 : Hid (V.heap.size <= u1.heap.size) := b1.size
 have Z14 : Hid (u1.heap.size <= ((u1.alloc (.cells #[.string (zW gn), .slice x1 k1 d1, .slice x2 k2 d2, .slice x3 k3 d3, .slice x4 k4 d4] 31)).alloc (.cells #[.int .i64 cd, .int .i64 pl] 34)).heap.size) := bv.size
 have K1 := zZ (J1.out.later bv)
 clear c1 c2 bv bt b1
 obtain ⟨q1, hq1⟩ : ∃ q, u1.heap.size = q := ⟨_, rfl⟩
 have HQ1 := zZ hq1
 rw [hq1] at P1 Q1 ⊢
 clear hq1
 generalize (u1.alloc (.cells #[.string (zW gn), .slice x1 k1 d1, .slice x2 k2 d2, .slice x3 k3 d3, .slice x4 k4 d4] 31)).alloc (.cells #[.int .i64 cd, .int .i64 pl] 34) = w4 at *
 have s0 : w4.cell? ⟨t3, 0, none⟩ = some (.string (zW nm)) := (Y3.out.below V1.out).cell rfl
 have s1 : w4.cell? ⟨t3, 1, none⟩ = some (.slice la n lc) := (Y3.out.below V1.out).cell rfl
 go_upto_region 6 with (go_at_call 6; (with_reducible refine (BP.out w4 V1.out).mono ?_); rintro e u2 ⟨y1, y2, y3, y4, e1, e2, e3, e4, Bs, Fs, rfl, hO, bb⟩; have J2 := zZ hO; have b2 := bb; clear hO bb s0 s1)
 have c1 := (Below.refl u2.heap.size u2).alloc (Nat.le_refl _) (.cells #[.string (zW gn), .slice y1 k1 e1, .slice y2 k2 e2, .slice y3 k3 e3, .slice y4 k4 e4] 31)
 have c2 := (Below.refl _ _).alloc (Nat.le_refl _) (.cells #[.int .i64 cd, .int .i64 pl] 34) (w := u2.alloc (.cells #[.string (zW gn), .slice y1 k1 e1, .slice y2 k2 e2, .slice y3 k3 e3, .slice y4 k4 e4] 31))
 have bv := c1.trans (c2.mono c1.size)
 have P2 := zZ ((zU 31 u2 #[.string (zW gn), .slice y1 k1 e1, .slice y2 k2 e2, .slice y3 k3 e3, .slice y4 k4 e4]).below c2)
 have Q2 : Hid (zN 34 (u2.heap.size + 1) ((u2.alloc (.cells #[.string (zW gn), .slice y1 k1 e1, .slice y2 k2 e2, .slice y3 k3 e3, .slice y4 k4 e4] 31)).alloc (.cells #[.int .i64 cd, .int .i64 pl] 34)) #[.int .i64 cd, .int .i64 pl]) := by
  have r := zU 34 (u2.alloc (.cells #[.string (zW gn), .slice y1 k1 e1, .slice y2 k2 e2, .slice y3 k3 e3, .slice y4 k4 e4] 31)) #[.int .i64 cd, .int .i64 pl]
  rw [World.size_alloc] at r
  exact r
 have bt := b2.trans (bv.mono b2.size)
 have V2 := zZ (V1.out.trans (bt.mono V1.out.size))
 have P1 := zZ (P1.out.below bt)
 have Q1 := zZ (Q1.out.below bt)
 have BB2 : Hid (Below u1.heap.size u1 ((u2.alloc (.cells #[.string (zW gn), .slice y1 k1 e1, .slice y2 k2 e2, .slice y3 k3 e3, .slice y4 k4 e4] 31)).alloc (.cells #[.int .i64 cd, .int .i64 pl] 34))) := BB1.out.trans (bt.mono BB1.out.size)
 have K1 := zZ (K1.out.later bt)
 have K2 := zZ (J2.out.later bv)
 have Z24 : Hid (w4.heap.size <= ((u2.alloc (.cells #[.string (zW gn), .slice y1 k1 e1, .slice y2 k2 e2, .slice y3 k3 e3, .slice y4 k4 e4] 31)).alloc (.cells #[.int .i64 cd, .int .i64 pl] 34)).heap.size) := bt.size
 clear c1 c2 bv bt b2 BB1 J2
 generalize hq2 : u2.heap.size = q2 at *
 clear hq2
 generalize (u2.alloc (.cells #[.string (zW gn), .slice y1 k1 e1, .slice y2 k2 e2, .slice y3 k3 e3, .slice y4 k4 e4] 31)).alloc (.cells #[.int .i64 cd, .int .i64 pl] 34) = w6 at *
 have r0 : w6.cell? ⟨w.heap.size, 0, none⟩ = some (.string (zW nm)) := (X3.out.below V2.out).cell rfl
 have r1 : w6.cell? ⟨w.heap.size, 1, none⟩ = some (.slice a n c) := (X3.out.below V2.out).cell rfl
 go_upto_region 7 with (go_at_call 7; (with_reducible refine (BR.out w6 V2.out).mono ?_); rintro e u3 ⟨z1, z2, z3, z4, f1, f2, f3, f4, rfl, hg, bb⟩; have GR := zZ hg; have b3 := bb; clear hg bb r0 r1)
 have c1 := (Below.refl u3.heap.size u3).alloc (Nat.le_refl _) (.cells #[.string (zW gn), .slice z1 k1 f1, .slice z2 k2 f2, .slice z3 k3 f3, .slice z4 k4 f4] 31)
 have c2 := (Below.refl _ _).alloc (Nat.le_refl _) (.cells #[.int .i64 cd, .int .i64 pl] 34) (w := u3.alloc (.cells #[.string (zW gn), .slice z1 k1 f1, .slice z2 k2 f2, .slice z3 k3 f3, .slice z4 k4 f4] 31))
 have bv := c1.trans (c2.mono c1.size)
 have P3 := zZ ((zU 31 u3 #[.string (zW gn), .slice z1 k1 f1, .slice z2 k2 f2, .slice z3 k3 f3, .slice z4 k4 f4]).below c2)
 have Q3 : Hid (zN 34 (u3.heap.size + 1) ((u3.alloc (.cells #[.string (zW gn), .slice z1 k1 f1, .slice z2 k2 f2, .slice z3 k3 f3, .slice z4 k4 f4] 31)).alloc (.cells #[.int .i64 cd, .int .i64 pl] 34)) #[.int .i64 cd, .int .i64 pl]) := by
  have r := zU 34 (u3.alloc (.cells #[.string (zW gn), .slice z1 k1 f1, .slice z2 k2 f2, .slice z3 k3 f3, .slice z4 k4 f4] 31)) #[.int .i64 cd, .int .i64 pl]
  rw [World.size_alloc] at r
  exact r
 have bt := b3.trans (bv.mono b3.size)
 have V3 := zZ (V2.out.trans (bt.mono V2.out.size))
 have P1 := zZ (P1.out.below bt)
 have Q1 := zZ (Q1.out.below bt)
 have P2 := zZ (P2.out.below bt)
 have Q2 := zZ (Q2.out.below bt)
 have BB3 : Hid (Below u1.heap.size u1 ((u3.alloc (.cells #[.string (zW gn), .slice z1 k1 f1, .slice z2 k2 f2, .slice z3 k3 f3, .slice z4 k4 f4] 31)).alloc (.cells #[.int .i64 cd, .int .i64 pl] 34))) := BB2.out.trans (bt.mono BB2.out.size)
 have K1 := zZ (K1.out.later bt)
 have K2 := zZ (K2.out.later bt)
 have G8 := zZ (GR.out.below bv)
 have Z4 : Hid (u1.heap.size <= w4.heap.size /\ w4.heap.size <= ((u3.alloc (.cells #[.string (zW gn), .slice z1 k1 f1, .slice z2 k2 f2, .slice z3 k3 f3, .slice z4 k4 f4] 31)).alloc (.cells #[.int .i64 cd, .int .i64 pl] 34)).heap.size) := ⟨Z14.out, Nat.le_trans Z24.out bt.size⟩
 clear c1 c2 bv bt b3 BB2 GR BP BR
 generalize hq3 : u3.heap.size = q3 at *
 clear hq3
 generalize (u3.alloc (.cells #[.string (zW gn), .slice z1 k1 f1, .slice z2 k2 f2, .slice z3 k3 f3, .slice z4 k4 f4] 31)).alloc (.cells #[.int .i64 cd, .int .i64 pl] 34) = w8 at *
 have SA : Hid (∀ U, Below w8.heap.size w8 U -> Calls Try.prog 8 #[.agg #[.string (zW gn), .slice x1 k1 d1, .slice x2 k2 d2, .slice x3 k3 d3, .slice x4 k4 d4], .agg #[.string (zW gn), .slice z1 k1 f1, .slice z2 k2 f2, .slice z3 k3 f3, .slice z4 k4 f4]] U fun e w' => e = .returned (.bool true) /\ Below U.heap.size U w') := fun U hU => SB.out U _ x1 x2 x3 x4 z1 z2 z3 z4 d1 d2 d3 d4 f1 f2 f3 f4 As Es (K1.out.later hU) (G8.out.below hU)
 have SC : Hid (∀ U, Below w8.heap.size w8 U -> Calls Try.prog 8 #[.agg #[.string (zW gn), .slice y1 k1 e1, .slice y2 k2 e2, .slice y3 k3 e3, .slice y4 k4 e4], .agg #[.string (zW gn), .slice z1 k1 f1, .slice z2 k2 f2, .slice z3 k3 f3, .slice z4 k4 f4]] U fun e w' => e = .returned (.bool true) /\ Below U.heap.size U w') := fun U hU => SB.out U _ y1 y2 y3 y4 z1 z2 z3 z4 e1 e2 e3 e4 f1 f2 f3 f4 Bs Fs (K2.out.later hU) (G8.out.below hU)
 have AP : Hid (∀ U, Below w8.heap.size w8 U -> Calls Try.prog 11 #[.agg #[.string (zW gn), .slice x1 k1 d1, .slice x2 k2 d2, .slice x3 k3 d3, .slice x4 k4 d4], .agg #[.string (zW gn), .slice y1 k1 e1, .slice y2 k2 e2, .slice y3 k3 e3, .slice y4 k4 e4]] U fun e w' => e = .returned (.bool true) /\ Below V.heap.size U w') := fun U hU => AG.out V.heap.size w4.heap.size u1 U x1 x2 x3 x4 y1 y2 y3 y4 d1 d2 d3 d4 e1 e2 e3 e4 As Bs Es Fs J1.out (BB3.out.trans (hU.mono BB3.out.size)) (K2.out.later hU) Z1.out Z4.out.1 (Nat.le_trans Z4.out.2 hU.size)
 clear SB AG K1 K2 G8 J1
 have U0 := zZ (Below.refl w8.heap.size w8)
 have nc1 : (cd != cd) = false := by simp
 have nc2 : (cd == cd) = true := by simp
 have np1 : (pl != pl) = false := by simp
 have np2 : (pl == pl) = true := by simp
 have i0 : w8.cell? ⟨q1 + 1, 0, none⟩ = some (.int .i64 cd) := Q1.out.cell rfl
 have i1 : w8.cell? ⟨q1 + 1, 1, none⟩ = some (.int .i64 pl) := Q1.out.cell rfl
 have j0 : w8.cell? ⟨q2 + 1, 0, none⟩ = some (.int .i64 cd) := Q2.out.cell rfl
 have j1 : w8.cell? ⟨q2 + 1, 1, none⟩ = some (.int .i64 pl) := Q2.out.cell rfl
 have m0 : w8.cell? ⟨q3 + 1, 0, none⟩ = some (.int .i64 cd) := Q3.out.cell rfl
 have m1 : w8.cell? ⟨q3 + 1, 1, none⟩ = some (.int .i64 pl) := Q3.out.cell rfl
 have g0 : w8.cell? ⟨q1, 0, none⟩ = some (.string (zW gn)) := P1.out.cell rfl
 have g1 : w8.cell? ⟨q1, 1, none⟩ = some (.slice x1 k1 d1) := P1.out.cell rfl
 have g2 : w8.cell? ⟨q1, 2, none⟩ = some (.slice x2 k2 d2) := P1.out.cell rfl
 have g3 : w8.cell? ⟨q1, 3, none⟩ = some (.slice x3 k3 d3) := P1.out.cell rfl
 have g4 : w8.cell? ⟨q1, 4, none⟩ = some (.slice x4 k4 d4) := P1.out.cell rfl
 have h0 : w8.cell? ⟨q3, 0, none⟩ = some (.string (zW gn)) := P3.out.cell rfl
 have h1 : w8.cell? ⟨q3, 1, none⟩ = some (.slice z1 k1 f1) := P3.out.cell rfl
 have h2 : w8.cell? ⟨q3, 2, none⟩ = some (.slice z2 k2 f2) := P3.out.cell rfl
 have h3 : w8.cell? ⟨q3, 3, none⟩ = some (.slice z3 k3 f3) := P3.out.cell rfl
 have h4 : w8.cell? ⟨q3, 4, none⟩ = some (.slice z4 k4 f4) := P3.out.cell rfl
 go_upto_region 9 with (first | (go_at_call 8; (with_reducible refine (SA.out w8 U0.out).mono ?_); rintro e p1 ⟨rfl, bx⟩; have U1 := zZ (U0.out.trans (bx.mono U0.out.size)); clear bx; clear i0 i1 j0 j1 m0 m1 g0 g1 g2 g3 g4 h0 h1 h2 h3 h4; have g0 : p1.cell? ⟨q2, 0, none⟩ = some (.string (zW gn)) := (P2.out.below U1.out).cell rfl; have g1 : p1.cell? ⟨q2, 1, none⟩ = some (.slice y1 k1 e1) := (P2.out.below U1.out).cell rfl; have g2 : p1.cell? ⟨q2, 2, none⟩ = some (.slice y2 k2 e2) := (P2.out.below U1.out).cell rfl; have g3 : p1.cell? ⟨q2, 3, none⟩ = some (.slice y3 k3 e3) := (P2.out.below U1.out).cell rfl; have g4 : p1.cell? ⟨q2, 4, none⟩ = some (.slice y4 k4 e4) := (P2.out.below U1.out).cell rfl; have h0 : p1.cell? ⟨q3, 0, none⟩ = some (.string (zW gn)) := (P3.out.below U1.out).cell rfl; have h1 : p1.cell? ⟨q3, 1, none⟩ = some (.slice z1 k1 f1) := (P3.out.below U1.out).cell rfl; have h2 : p1.cell? ⟨q3, 2, none⟩ = some (.slice z2 k2 f2) := (P3.out.below U1.out).cell rfl; have h3 : p1.cell? ⟨q3, 3, none⟩ = some (.slice z3 k3 f3) := (P3.out.below U1.out).cell rfl; have h4 : p1.cell? ⟨q3, 4, none⟩ = some (.slice z4 k4 f4) := (P3.out.below U1.out).cell rfl) | (go_at_call 8; (with_reducible refine (SC.out _ U1.out).mono ?_); rintro e p2 ⟨rfl, bx⟩; have U2 := zZ (U1.out.trans (bx.mono U1.out.size)); clear bx; clear g0 g1 g2 g3 g4 h0 h1 h2 h3 h4; have g0 : p2.cell? ⟨t3, 0, none⟩ = some (.string (zW nm)) := (Y3.out.below (V3.out.trans (U2.out.mono V3.out.size))).cell rfl; have g1 : p2.cell? ⟨t3, 1, none⟩ = some (.slice la n lc) := (Y3.out.below (V3.out.trans (U2.out.mono V3.out.size))).cell rfl; have h0 : p2.cell? ⟨w.heap.size, 0, none⟩ = some (.string (zW nm)) := (X3.out.below (V3.out.trans (U2.out.mono V3.out.size))).cell rfl; have h1 : p2.cell? ⟨w.heap.size, 1, none⟩ = some (.slice a n c) := (X3.out.below (V3.out.trans (U2.out.mono V3.out.size))).cell rfl) | (go_at_call 9; (with_reducible refine (KP.out _ (V3.out.trans (U2.out.mono V3.out.size))).mono ?_); rintro e p3 ⟨rfl, bx⟩; have U3 := zZ (U2.out.trans (bx.mono U2.out.size)); clear bx; clear g0 g1 h0 h1))
 go_wp2_with (first | (go_at_call 10; (with_reducible refine (AW.out _).mono ?_); rintro e p4 ⟨rfl, bx⟩; have U4 := zZ (U3.out.trans (bx.mono U3.out.size)); clear bx; have g0 : p4.cell? ⟨q1, 0, none⟩ = some (.string (zW gn)) := (P1.out.below U4.out).cell rfl; have g1 : p4.cell? ⟨q1, 1, none⟩ = some (.slice x1 k1 d1) := (P1.out.below U4.out).cell rfl; have g2 : p4.cell? ⟨q1, 2, none⟩ = some (.slice x2 k2 d2) := (P1.out.below U4.out).cell rfl; have g3 : p4.cell? ⟨q1, 3, none⟩ = some (.slice x3 k3 d3) := (P1.out.below U4.out).cell rfl; have g4 : p4.cell? ⟨q1, 4, none⟩ = some (.slice x4 k4 d4) := (P1.out.below U4.out).cell rfl; have h0 : p4.cell? ⟨q2, 0, none⟩ = some (.string (zW gn)) := (P2.out.below U4.out).cell rfl; have h1 : p4.cell? ⟨q2, 1, none⟩ = some (.slice y1 k1 e1) := (P2.out.below U4.out).cell rfl; have h2 : p4.cell? ⟨q2, 2, none⟩ = some (.slice y2 k2 e2) := (P2.out.below U4.out).cell rfl; have h3 : p4.cell? ⟨q2, 3, none⟩ = some (.slice y3 k3 e3) := (P2.out.below U4.out).cell rfl; have h4 : p4.cell? ⟨q2, 4, none⟩ = some (.slice y4 k4 e4) := (P2.out.below U4.out).cell rfl) | (go_at_call 11; (with_reducible refine (AP.out _ U4.out).mono ?_); rintro e p5 ⟨rfl, bx⟩; have U5 : Hid (Below V.heap.size V p5) := (V3.out.trans (U4.out.mono V3.out.size)).trans bx; clear bx; clear g0 g1 g2 g3 g4 h0 h1 h2 h3 h4; have g0 : p5.cell? ⟨t3, 0, none⟩ = some (.string (zW nm)) := (Y3.out.below U5.out).cell rfl; have g1 : p5.cell? ⟨t3, 1, none⟩ = some (.slice la n lc) := (Y3.out.below U5.out).cell rfl; have h0 : p5.cell? ⟨w.heap.size, 0, none⟩ = some (.string (zW nm)) := (X3.out.below U5.out).cell rfl; have h1 : p5.cell? ⟨w.heap.size, 1, none⟩ = some (.slice a n c) := (X3.out.below U5.out).cell rfl) | (go_at_call 9; (with_reducible refine (KP.out _ U5.out).mono ?_); rintro e p6 ⟨rfl, bx⟩; have U6 := zZ (U5.out.trans (bx.mono U5.out.size)); clear bx; clear g0 g1 h0 h1))
 refine bodyPost_ret (v := .bool true) (by simp [results, Try.results3, go_sem]) rfl ?_
 exact ⟨rfl, L3.out.trans (U6.out.mono L3.out.size)⟩
end Go.Proofs.Ytgoconkleicmkaa
