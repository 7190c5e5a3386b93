/- Texts of one chain, laid one behind the other. -/
import Derived.Test.YtolpelfdhcccnaaGreatDoorPartSourceParses47
import Derived.Test.YtolpelfdhcccnaaGreatDoorPartSourceParses28
namespace Go.Proofs.YtolpelfdhcccnaaGreatDoor
open Go.ChangeShapes Go.WideShapes Go.ChangeAt Go.RowKit
theorem doneAt_neS (d : Nat → Bool) {i j : Nat} (h : j ≠ i) : doneAt d i j = d j := by simp [doneAt, h]
theorem bldR_no {w w' : World} {cd pl : Int} (hb : Below w.heap.size w w') : BldR w gg0 cd pl (.returned (.tuple #[.agg #[.string ⟨#[]⟩, .slice none 0 0, .slice none 0 0, .slice none 0 0, .slice none 0 0], .agg #[.int .i64 cd, .int .i64 pl]])) w' := ⟨none, none, none, none, 0, 0, 0, 0, rfl, fun _ _ => gr_none, hb⟩
set_option maxRecDepth 100000 in
set_option maxHeartbeats 16000000 in
theorem rsrcParse_any (l : List UInt8) (w : World) : Calls Tryz.prog 10 #[.string (str l)] w (BldR w (srcG l) (srcB l).1 (srcB l).2) := by
  have ba := (Below.refl w.heap.size w).alloc (Nat.le_refl _) (.cells #[.string ⟨#[]⟩, .slice none 0 0, .slice none 0 0, .slice none 0 0, .slice none 0 0] 26)
  have b2 := (Below.refl _ _).alloc (Nat.le_refl _) (.cells #[.int .i64 0, .int .i64 0] 33) (w := w.alloc (.cells #[.string ⟨#[]⟩, .slice none 0 0, .slice none 0 0, .slice none 0 0, .slice none 0 0] 26))
  have bz := ba.trans (b2.mono ba.size)
  have gb0 := (blkA_new 26 w #[.string ⟨#[]⟩, .slice none 0 0, .slice none 0 0, .slice none 0 0, .slice none 0 0]).below b2
  have rb0 := blkA_new 33 (w.alloc (.cells #[.string ⟨#[]⟩, .slice none 0 0, .slice none 0 0, .slice none 0 0, .slice none 0 0] 26)) #[.int .i64 0, .int .i64 0]
  rw [World.size_alloc] at rb0
  have SP : Hid (Calls Tryz.prog 25 #[.string (str l)] ((w.alloc (.cells #[.string ⟨#[]⟩, .slice none 0 0, .slice none 0 0, .slice none 0 0, .slice none 0 0] 26)).alloc (.cells #[.int .i64 0, .int .i64 0] 33)) (SkE ((w.alloc (.cells #[.string ⟨#[]⟩, .slice none 0 0, .slice none 0 0, .slice none 0 0, .slice none 0 0] 26)).alloc (.cells #[.int .i64 0, .int .i64 0] 33)) (outP l).1 (srcK l) (outP l).2.2.1 (outP l).2.2.2)) := (rparse_any l _).mono fun e w' hh => skE_of hh
  obtain ⟨RE, hRE⟩ : ∃ R, BldR w (srcG l) (srcB l).1 (srcB l).2 = R := ⟨_, rfl⟩
  rw [hRE]
  have HRE := hiddenG hRE
  unfold srcG srcB at HRE
  obtain ⟨nm, hnm⟩ : ∃ q, (outP l).1 = q := ⟨_, rfl⟩
  obtain ⟨K, hK⟩ : ∃ q, srcK l = q := ⟨_, rfl⟩
  obtain ⟨cd, pl, hcp⟩ : ∃ cd pl, (outP l).2.2 = (cd, pl) := ⟨_, _, rfl⟩
  rw [hnm, hK, hcp] at SP HRE
  unfold SkE at SP
  simp only at SP HRE
  have BA := hiddenG bz
  have G0 := hiddenG gb0
  have R0 := hiddenG rb0
  clear ba b2 bz gb0 rb0 hRE hnm hK hcp
  obtain ⟨rb, hrb⟩ : ∃ q, w.heap.size + 1 = q := ⟨_, rfl⟩
  have HRB := hiddenG hrb
  rw [hrb] at R0
  go_enter Tryz.func10, Tryz.ntmps10
  go_upto_region 1 with fail
  clear hrb
  generalize (w.alloc (.cells #[.string ⟨#[]⟩, .slice none 0 0, .slice none 0 0, .slice none 0 0, .slice none 0 0] 26)).alloc (.cells #[.int .i64 0, .int .i64 0] 33) = W0 at *
  go_upto_region 2 with (go_at_call 25; (with_reducible refine SP.out.mono ?_); rintro e u1 ⟨a, n, c, M, rfl, hM, b1⟩; have HM := hiddenG hM; have B1 := hiddenG (BA.out.trans (b1.mono BA.out.size)); have G1 := hiddenG (G0.out.below b1); have R1 := hiddenG (R0.out.below b1); clear hM b1)
  clear SP BA G0 R0
  have c1 := (Below.refl u1.heap.size u1).alloc (Nat.le_refl _) (.cells #[.string (str nm), .slice a n c] 52)
  have c2 := (Below.refl _ _).alloc (Nat.le_refl _) (.cells #[.int .i64 cd, .int .i64 pl] 33) (w := u1.alloc (.cells #[.string (str nm), .slice a n c] 52))
  have cc := c1.trans (c2.mono c1.size)
  have X2 := hiddenG ((blkA_new 52 u1 #[.string (str nm), .slice a n c]).below c2)
  have F2 : Hid (BlkA 33 (u1.heap.size + 1) ((u1.alloc (.cells #[.string (str nm), .slice a n c] 52)).alloc (.cells #[.int .i64 cd, .int .i64 pl] 33)) #[.int .i64 cd, .int .i64 pl]) := by
    have r := blkA_new 33 (u1.alloc (.cells #[.string (str nm), .slice a n c] 52)) #[.int .i64 cd, .int .i64 pl]
    rw [World.size_alloc] at r
    exact r
  have B2 := hiddenG (B1.out.trans (cc.mono B1.out.size))
  have G2 := hiddenG (G1.out.below cc)
  have R2 := hiddenG (R1.out.below cc)
  have M2 : Hid (cd = 0 → pl = 0 ∧ M.map Prod.fst = K ∧ M.length = n ∧ n ≤ 2000000 ∧ ItR ((u1.alloc (.cells #[.string (str nm), .slice a n c] 52)).alloc (.cells #[.int .i64 cd, .int .i64 pl] 33)) a M ∧ ItO ((u1.alloc (.cells #[.string (str nm), .slice a n c] 52)).alloc (.cells #[.int .i64 cd, .int .i64 pl] 33)) M) := fun e => by
    obtain ⟨h0, h1, h2, h3, h4, h5⟩ := HM.out e
    exact ⟨h0, h1, h2, h3, h4.below cc, h5.below cc⟩
  have SZ : Hid (rb < u1.heap.size) := R1.out.lt
  clear c1 c2 cc B1 G1 R1 HM
  obtain ⟨sb, hsb⟩ : ∃ q, u1.heap.size = q := ⟨_, rfl⟩
  rw [hsb] at X2 F2 SZ ⊢
  clear hsb
  obtain ⟨fb, hfb⟩ : ∃ q, sb + 1 = q := ⟨_, rfl⟩
  have HFB := hiddenG hfb
  rw [hfb] at F2 ⊢
  clear hfb
  have HF : Hid (fb ≠ w.heap.size ∧ rb ≠ w.heap.size ∧ fb ≠ rb ∧ w.heap.size ≤ rb) := by
    have h1 := SZ.out
    have h2 := HFB.out
    have h3 := HRB.out
    exact ⟨by omega, by omega, by omega, by omega⟩
  generalize (u1.alloc (.cells #[.string (str nm), .slice a n c] 52)).alloc (.cells #[.int .i64 cd, .int .i64 pl] 33) = w2 at *
  have y0 : w2.cell? ⟨fb, 0, none⟩ = some (.int .i64 cd) := F2.out.cell rfl
  have y1 : w2.cell? ⟨fb, 1, none⟩ = some (.int .i64 pl) := F2.out.cell rfl
  by_cases hc0 : cd = 0
  · obtain ⟨hp0, hM1, hM2, hM3, hM4, hM5⟩ := M2.out hc0
    subst hc0 hp0
    obtain ⟨c2, p2, hB⟩ : ∃ c2 p2, (buildS nm K).2 = (c2, p2) := ⟨_, _, rfl⟩
    have BD : Hid (Calls Tryz.prog 26 #[.agg #[.string (str nm), .slice a n c]] w2 (BldR w2 (bG nm K) c2 p2)) := by
      rw [← hM1]
      rw [← hM1] at hB
      exact rbld_one nm a n c M w2 hM2 hM4 hM5 hM3 hB
    have HB2 := hiddenG hB
    obtain ⟨G, hG⟩ : ∃ G, bG nm K = G := ⟨_, rfl⟩
    rw [hG] at BD
    have HG := hiddenG hG
    unfold BldR at BD
    clear hG hB hM1 hM2 hM3 hM4 hM5 M2
    go_upto_region 4 with fail
    clear y0 y1
    have y0 : w2.cell? ⟨sb, 0, none⟩ = some (.string (str nm)) := X2.out.cell rfl
    have y1 : w2.cell? ⟨sb, 1, none⟩ = some (.slice a n c) := X2.out.cell rfl
    go_wp2_with (first
      | (go_at_call 26; (with_reducible refine BD.out.mono ?_); rintro e u4 ⟨x1, x2, x3, x4, d1, d2, d3, d4, rfl, hg, b4⟩; have GR := hiddenG hg; have D4 := hiddenG b4; have G4 := hiddenG (G2.out.below b4); have R4 := hiddenG (R2.out.below b4); have B4 := hiddenG (B2.out.trans (b4.mono B2.out.size)); clear hg b4 y0 y1)
      | (refine wpList_storeW _ rfl 26 (.tmp 2) (.tmp 18) rfl rfl w.heap.size 26 _ _ rfl rfl G4.out sizG rfl rfl ?_; intro w5 hN hU; have N5 := hiddenG hN; have U5 := hiddenG hU; have R5 : Hid (BlkA 33 rb w5 #[.int .i64 0, .int .i64 0]) := R4.out.keep (hU.block _ R4.out.lt HF.out.2.1); clear hN hU)
      | (refine wpList_storeW _ rfl 33 (.tmp 3) (.tmp 19) rfl rfl rb 33 _ _ rfl rfl R5.out sizU rfl rfl ?_; intro w6 hN hU; have N6 := hiddenG hN; have U6 := hiddenG hU; have G6 : Hid (BlkA 26 w.heap.size w6 #[.string (str G.name), .slice x1 G.actors.length d1, .slice x2 G.edges.length d2, .slice x3 G.ins.length d3, .slice x4 G.outs.length d4]) := N5.out.keep (hU.block _ N5.out.lt HF.out.2.1.symm); clear hN hU))
    have t0 : w6.cell? ⟨w.heap.size, 0, none⟩ = some (.string (str G.name)) := G6.out.cell rfl
    have t1 : w6.cell? ⟨w.heap.size, 1, none⟩ = some (.slice x1 G.actors.length d1) := G6.out.cell rfl
    have t2 : w6.cell? ⟨w.heap.size, 2, none⟩ = some (.slice x2 G.edges.length d2) := G6.out.cell rfl
    have t3 : w6.cell? ⟨w.heap.size, 3, none⟩ = some (.slice x3 G.ins.length d3) := G6.out.cell rfl
    have t4 : w6.cell? ⟨w.heap.size, 4, none⟩ = some (.slice x4 G.outs.length d4) := G6.out.cell rfl
    have s0 : w6.cell? ⟨rb, 0, none⟩ = some (.int .i64 c2) := N6.out.cell rfl
    have s1 : w6.cell? ⟨rb, 1, none⟩ = some (.int .i64 p2) := N6.out.cell rfl
    refine bodyPost_ret (v := .tuple #[.agg #[.string (str G.name), .slice x1 G.actors.length d1, .slice x2 G.edges.length d2, .slice x3 G.ins.length d3, .slice x4 G.outs.length d4], .agg #[.int .i64 c2, .int .i64 p2]]) (by simp [results, Tryz.results10, go_sem, t0, t1, t2, t3, t4, s0, s1]) rfl ?_
    rw [← HRE.out, if_neg (fun x => x rfl), if_neg (fun x => x rfl), HB2.out, HG.out]
    have q1 := SZ.out
    have q2 := HFB.out
    have q3 := F2.out.lt
    have q4 := HRB.out
    have q5 := U5.out.size
    have same : ∀ k, w2.heap.size ≤ k → k < u4.heap.size → w6.heap[k]? = u4.heap[k]? := fun k hk hk2 => (U6.out.block k (by omega) (by omega)).trans (U5.out.block k hk2 (by omega))
    have b5 := B4.out.trans (U5.out.below (Nat.le_refl _) B4.out.size)
    refine ⟨x1, x2, x3, x4, d1, d2, d3, d4, rfl, fun w9 h9 => GR.out w9 fun k hk hk2 => (h9 k (by omega) (by have := U6.out.size; omega)).trans (same k hk hk2), b5.trans (U6.out.below (by omega) b5.size)⟩
  · have n3 : (cd == 0) = false := by simp [hc0]
    have n4 : (cd != 0) = true := by simp [hc0]
    go_upto_region 3 with fail
    have K5 : Hid (BlkA 33 fb w2 #[.int .i64 cd, .int .i64 pl]) := F2.out
    have K6 : Hid (BlkA 26 w.heap.size w2 #[.string ⟨#[]⟩, .slice none 0 0, .slice none 0 0, .slice none 0 0, .slice none 0 0]) := G2.out
    have K8 : Hid (BlkA 33 rb w2 #[.int .i64 0, .int .i64 0]) := R2.out
    have K7 : Hid (Below w.heap.size w w2) := B2.out
    have HC0 := hiddenG hc0
    clear F2 G2 R2 X2 B2 M2 hc0 n3 n4 y0 y1
    refine wp_region_gen [2, 3] (fun d_ i u z => match i with
        | 0 => z = .agg #[.string ⟨#[]⟩, .slice none 0 0, .slice none 0 0, .slice none 0 0, .slice none 0 0]
        | 1 => z = .agg #[.int .i64 cd, .int .i64 pl]
        | 2 => True
        | 3 => True
        | _ => True) (fun d_ u => BlkA 33 fb u #[.int .i64 cd, .int .i64 pl] ∧ BlkA 26 w.heap.size u #[.string ⟨#[]⟩, .slice none 0 0, .slice none 0 0, .slice none 0 0, .slice none 0 0] ∧ (d_ 3 = false → BlkA 33 rb u #[.int .i64 0, .int .i64 0]) ∧ (d_ 3 = true → BlkA 33 rb u #[.int .i64 cd, .int .i64 pl]) ∧ Below w.heap.size w u) (by kernel_rfl) (by kernel_rfl) (by kernel_rfl) ?_ ?_ ?_ ?_ ?_ ?_ (by kernel_rfl)
    · intro d_ i w v w' h hb
      match i, h with
      | 0, h => exact h
      | 1, h => exact h
      | 2, h => exact h
      | 3, h => exact h
      | _ + 4, _ => trivial
    · intro d_ u u' h hb
      exact ⟨h.1.below hb, h.2.1.below hb, fun e => (h.2.2.1 e).below hb, fun e => (h.2.2.2.1 e).below hb, h.2.2.2.2.trans (hb.mono h.2.2.2.2.size)⟩
    · exact ⟨K5.out, K6.out, fun _ => K8.out, fun e => absurd e (by decide), K7.out⟩
    · intro d_ i o ρ w' hm ho hf hg hC hcs hfs hfr hdep
      match i, hm, ho, hf, hg, hfr, hdep with
      | 0, _, ho, hf, hg, hfr, hdep =>
        simp only [gTA, gCZ, gSI] at ho
        subst ho
        refine ⟨fun _ => ?_, fun hw => absurd (show true = false from hw) (by decide)⟩
        simp [go_sem]
        exact ⟨Below.refl _ _, rfl⟩
      | 1, _, ho, hf, hg, hfr, hdep =>
        simp only [gTA, gCZ, gCS, gSI] at ho
        subst ho
        refine ⟨fun _ => ?_, fun hw => absurd (show true = false from hw) (by decide)⟩
        have ts : ρ (.tmp 5) = .pointer (some ⟨fb, 0, none⟩) := hfr 5 (by kernel_rfl)
        have k0 : w'.cell? ⟨fb, 0, none⟩ = some (.int .i64 cd) := hC.1.cell rfl
        have k1 : w'.cell? ⟨fb, 1, none⟩ = some (.int .i64 pl) := hC.1.cell rfl
        simp [go_sem, ts, k0, k1]
        exact ⟨Below.refl _ _, rfl⟩
      | 2, hm, _, _, _, _, _ => exact absurd hm (by decide)
      | 3, hm, _, _, _, _, _ => exact absurd hm (by decide)
      | n + 4, _, ho, _, _, _, _ => simp at ho
    · intro d_ i o ρ w' hm ho h0 hf hg hC hcs hfs hfr hdep
      match i, hm, ho, h0, hf, hg, hfr, hdep with
      | 0, hm, _, _, _, _, _, _ => exact absurd hm (by decide)
      | 1, hm, _, _, _, _, _, _ => exact absurd hm (by decide)
      | 2, _, ho, h0, hf, hg, hfr, hdep =>
        simp only [gTA, gCZ, gCS, gSI] at ho
        subst ho
        have t0 : ρ (.tmp 14) = .agg #[.string ⟨#[]⟩, .slice none 0 0, .slice none 0 0, .slice none 0 0, .slice none 0 0] := hdep 0 14 (by kernel_rfl) (by kernel_rfl)
        have ts : ρ (.tmp 2) = .pointer (some ⟨w.heap.size, 0, none⟩) := hfr 2 (by kernel_rfl)
        have b8 := hC.2.1
        have z0 : w'.cell? ⟨w.heap.size, 0, none⟩ = some (.string ⟨#[]⟩) := b8.cell rfl
        have z1 : w'.cell? ⟨w.heap.size, 1, none⟩ = some (.slice none 0 0) := b8.cell rfl
        have z2 : w'.cell? ⟨w.heap.size, 2, none⟩ = some (.slice none 0 0) := b8.cell rfl
        have z3 : w'.cell? ⟨w.heap.size, 3, none⟩ = some (.slice none 0 0) := b8.cell rfl
        have z4 : w'.cell? ⟨w.heap.size, 4, none⟩ = some (.slice none 0 0) := b8.cell rfl
        have f0 := b8.frozen 0
        have f1 := b8.frozen 1
        have f2 := b8.frozen 2
        have f3 := b8.frozen 3
        have f4 := b8.frozen 4
        have hB : BlkA 26 w.heap.size (((((w'.setCell ⟨w.heap.size, 0, none⟩ (.string ⟨#[]⟩)).setCell ⟨w.heap.size, 1, none⟩ (.slice none 0 0)).setCell ⟨w.heap.size, 2, none⟩ (.slice none 0 0)).setCell ⟨w.heap.size, 3, none⟩ (.slice none 0 0)).setCell ⟨w.heap.size, 4, none⟩ (.slice none 0 0)) #[.string ⟨#[]⟩, .slice none 0 0, .slice none 0 0, .slice none 0 0, .slice none 0 0] := (((((b8.set 0 (.string ⟨#[]⟩)).set 1 (.slice none 0 0)).set 2 (.slice none 0 0)).set 3 (.slice none 0 0)).set 4 (.slice none 0 0))
        have hbt := ((((But.set w' w.heap.size 0 (.string ⟨#[]⟩)).trans (But.set _ w.heap.size 1 (.slice none 0 0))).trans (But.set _ w.heap.size 2 (.slice none 0 0))).trans (But.set _ w.heap.size 3 (.slice none 0 0))).trans (But.set _ w.heap.size 4 (.slice none 0 0))
        refine ⟨rfl, markUpon_skip (w' := (((((w'.setCell ⟨w.heap.size, 0, none⟩ (.string ⟨#[]⟩)).setCell ⟨w.heap.size, 1, none⟩ (.slice none 0 0)).setCell ⟨w.heap.size, 2, none⟩ (.slice none 0 0)).setCell ⟨w.heap.size, 3, none⟩ (.slice none 0 0)).setCell ⟨w.heap.size, 4, none⟩ (.slice none 0 0))) (by simp [go_sem, ts, t0, z0, z1, z2, z3, z4, f0, f1, f2, f3, f4]) ?_⟩
        refine ⟨⟨hC.1.keep (hbt.block _ hC.1.lt HF.out.1), hB, fun e => (hC.2.2.1 ((doneAt_neS d_ (by decide)).symm.trans e)).keep (hbt.block _ (hC.2.2.1 ((doneAt_neS d_ (by decide)).symm.trans e)).lt HF.out.2.1), fun e => (hC.2.2.2.1 ((doneAt_neS d_ (by decide)).symm.trans e)).keep (hbt.block _ (hC.2.2.2.1 ((doneAt_neS d_ (by decide)).symm.trans e)).lt HF.out.2.1), hC.2.2.2.2.trans (hbt.below (Nat.le_refl _) hC.2.2.2.2.size)⟩, fun h => absurd rfl h, ?_⟩
        intro j t hj hs
        match j, hs with
        | 0, hs => exact hs
        | 1, hs => exact hs
        | 2, _ => trivial
        | 3, _ => trivial
        | _ + 4, _ => trivial
      | 3, _, ho, h0, hf, hg, hfr, hdep =>
        simp only [gTA, gCZ, gCS, gSI] at ho
        subst ho
        have t0 : ρ (.tmp 15) = .agg #[.int .i64 cd, .int .i64 pl] := hdep 1 15 (by kernel_rfl) (by kernel_rfl)
        have ts : ρ (.tmp 3) = .pointer (some ⟨rb, 0, none⟩) := hfr 3 (by kernel_rfl)
        have b8 := hC.2.2.1 h0
        have z0 : w'.cell? ⟨rb, 0, none⟩ = some (.int .i64 0) := b8.cell rfl
        have z1 : w'.cell? ⟨rb, 1, none⟩ = some (.int .i64 0) := b8.cell rfl
        have f0 := b8.frozen 0
        have f1 := b8.frozen 1
        have hB : BlkA 33 rb ((w'.setCell ⟨rb, 0, none⟩ (.int .i64 cd)).setCell ⟨rb, 1, none⟩ (.int .i64 pl)) #[.int .i64 cd, .int .i64 pl] := ((b8.set 0 (.int .i64 cd)).set 1 (.int .i64 pl))
        have hbt := (But.set w' rb 0 (.int .i64 cd)).trans (But.set _ rb 1 (.int .i64 pl))
        refine ⟨rfl, markUpon_skip (w' := ((w'.setCell ⟨rb, 0, none⟩ (.int .i64 cd)).setCell ⟨rb, 1, none⟩ (.int .i64 pl))) (by simp [go_sem, ts, t0, z0, z1, f0, f1]) ?_⟩
        refine ⟨⟨hC.1.keep (hbt.block _ hC.1.lt HF.out.2.2.1), hC.2.1.keep (hbt.block _ hC.2.1.lt HF.out.2.1.symm), fun e => absurd e (by rw [doneAt_eqS]; decide), fun _ => hB, hC.2.2.2.2.trans (hbt.below HF.out.2.2.2 hC.2.2.2.2.size)⟩, fun h => absurd rfl h, ?_⟩
        intro j t hj hs
        match j, hs with
        | 0, hs => exact hs
        | 1, hs => exact hs
        | 2, _ => trivial
        | 3, _ => trivial
        | _ + 4, _ => trivial
      | n + 4, _, ho, _, _, _, _, _ => simp at ho
    · intro V w9 hC9 hS
      simp only [puts, put_none]
      simp only [Act.put, List.setIfInBounds_toArray, List.set_cons_zero, List.set_cons_succ]
      clear hS 
      have N8 : Hid (BlkA 26 w.heap.size w9 #[.string ⟨#[]⟩, .slice none 0 0, .slice none 0 0, .slice none 0 0, .slice none 0 0]) := hC9.2.1
      have N7 : Hid (BlkA 33 rb w9 #[.int .i64 cd, .int .i64 pl]) := hC9.2.2.2.1 rfl
      have B9 : Hid (Below w.heap.size w w9) := hC9.2.2.2.2
      clear hC9
      go_wp2
      have t0 : w9.cell? ⟨w.heap.size, 0, none⟩ = some (.string ⟨#[]⟩) := N8.out.cell rfl
      have t1 : w9.cell? ⟨w.heap.size, 1, none⟩ = some (.slice none 0 0) := N8.out.cell rfl
      have t2 : w9.cell? ⟨w.heap.size, 2, none⟩ = some (.slice none 0 0) := N8.out.cell rfl
      have t3 : w9.cell? ⟨w.heap.size, 3, none⟩ = some (.slice none 0 0) := N8.out.cell rfl
      have t4 : w9.cell? ⟨w.heap.size, 4, none⟩ = some (.slice none 0 0) := N8.out.cell rfl
      have s0 : w9.cell? ⟨rb, 0, none⟩ = some (.int .i64 cd) := N7.out.cell rfl
      have s1 : w9.cell? ⟨rb, 1, none⟩ = some (.int .i64 pl) := N7.out.cell rfl
      refine bodyPost_ret (v := .tuple #[.agg #[.string ⟨#[]⟩, .slice none 0 0, .slice none 0 0, .slice none 0 0, .slice none 0 0], .agg #[.int .i64 cd, .int .i64 pl]]) (by simp [results, Tryz.results10, go_sem, t0, t1, t2, t3, t4, s0, s1]) rfl ?_
      rw [← HRE.out, if_pos HC0.out, if_pos HC0.out]
      exact bldR_no B9.out
theorem srcB_zeroP {l : List UInt8} (h : (srcB l).1 = 0) : (srcB l).2 = 0 := by
  unfold srcB at h ⊢
  split
  · rename_i h1
    rw [if_pos h1] at h
    exact absurd h h1
  · rename_i h1
    rw [if_neg h1] at h
    rw [(build_zero h).1]
theorem fault_errP (cd pl : Int) (h : cd = 0 → pl = 0) (w : World) (hT : EnvT w) : Calls Tryz.prog 11 #[errV cd pl] w fun e w' => e = .returned (.tuple #[.agg #[.int .i64 cd, .int .i64 pl], .bool true]) ∧ Below w.heap.size w w' := by
  unfold errV
  by_cases h0 : cd = 0
  · have h1 := h h0
    subst h0 h1
    rw [if_pos rfl]
    exact fault9_nil w
  · rw [if_neg h0]
    refine (fault9_some cd pl w hT).mono fun e w' hh => ⟨?_, hh.2⟩
    rw [hh.1]
    have e0 : (cd != 0) = true := by simp [h0]
    rw [e0]
theorem same_builtP {U : World} {G : GG} {B : Nat} {x1 x2 x3 x4 z1 z2 z3 z4 : Option Addr} {d1 d2 d3 d4 f1 f2 f3 f4 : Nat} {As : List (GA × Value)} {Es : List (GE × Value)} (h1 : BO B U G x1 x2 x3 x4 d1 d2 d3 d4 As Es) (g2 : GrG U z1 z2 z3 z4 G) (l : G.actors.length ≤ 32 ∧ G.edges.length ≤ 96 ∧ G.ins.length ≤ 16 ∧ G.outs.length ≤ 16) :
    Calls Tryz.prog 12 #[.agg #[.string (str G.name), .slice x1 G.actors.length d1, .slice x2 G.edges.length d2, .slice x3 G.ins.length d3, .slice x4 G.outs.length d4], .agg #[.string (str G.name), .slice z1 G.actors.length f1, .slice z2 G.edges.length f2, .slice z3 G.ins.length f3, .slice z4 G.outs.length f4]] U fun e w' => e = .returned (.bool true) ∧ Below U.heap.size U w' := by
  have g := h1.gr l.1 l.2.1 l.2.2.1 l.2.2.2
  have q := grG_len g2
  exact sameGraph_any G x1 x2 x3 x4 z1 z2 z3 z4 d1 d2 d3 d4 f1 f2 f3 f4 U g.A.at g.E.at g.I g.O g2.A.at g2.E.at g2.I g2.O g.l1 g.l2 g.l3 g.l4 q.1 q.2
set_option maxRecDepth 100000 in
set_option maxHeartbeats 32000000 in
theorem sourceParses_walk (l : List UInt8) (w : World) (hE : Env w) (hTb : Tab w.heap.size w) (hT : EnvT w) : Calls Tryz.prog 3 #[.string (str l)] w fun e w' => e = .returned (.bool true) ∧ Below w.heap.size w w' := by
  obtain ⟨cd, pl, hcp⟩ : ∃ cd pl, srcB l = (cd, pl) := ⟨_, _, rfl⟩
  obtain ⟨G, hG⟩ : ∃ q, srcG l = q := ⟨_, rfl⟩
  have hz : cd = 0 → pl = 0 := fun e => by
    have q := srcB_zeroP (l := l) (by rw [hcp]; exact e)
    rw [hcp] at q
    exact q
  have LL := hiddenG (srcG_len l)
  rw [hG] at LL
  have SP : Hid (∀ U, Below w.heap.size w U → Calls Tryz.prog 9 #[.string (str l)] U (SrcE U G cd pl)) := fun U hU => by
    have q := srcParse_any l U (hE.below hU)
    rw [hcp, hG] at q
    exact q
  have RP : Hid (∀ U, Calls Tryz.prog 10 #[.string (str l)] U (BldR U G cd pl)) := fun U => by
    have q := rsrcParse_any l U
    rw [hcp, hG] at q
    exact q
  have FA : Hid (∀ U, Below w.heap.size w U → Calls Tryz.prog 11 #[errV cd pl] U fun e w' => e = .returned (.tuple #[.agg #[.int .i64 cd, .int .i64 pl], .bool true]) ∧ Below U.heap.size U w') := fun U hU => fault_errP cd pl hz U (hT.below hU)
  have AW : Hid (∀ U, Below w.heap.size w U → Calls Tryz.prog 13 #[] U fun e w' => e = .returned (.bool true) ∧ Below U.heap.size U w') := fun U hU => awake9 U (hE.below hU) (hTb.on5 hU) (hT.below hU)
  obtain ⟨ev, hev⟩ : ∃ q, errV cd pl = q := ⟨_, rfl⟩
  unfold SrcE at SP
  unfold BldR at RP
  rw [hev] at SP FA
  clear hcp hG hz hev hE hTb hT
  have B0 := hiddenG (Below.refl w.heap.size w)
  go_enter Tryz.func3, Tryz.ntmps3
  go_upto_region 2 with (go_at_call 9; (with_reducible refine (SP.out w B0.out).mono ?_); rintro e u1 ⟨x1, x2, x3, x4, d1, d2, d3, d4, As, Es, rfl, hO, b1⟩; have J1 := hiddenG hO; have D1 := hiddenG b1; clear hO b1)
  have bv := (Below.refl u1.heap.size u1).alloc (Nat.le_refl _) (.cells #[.string (str G.name), .slice x1 G.actors.length d1, .slice x2 G.edges.length d2, .slice x3 G.ins.length d3, .slice x4 G.outs.length d4] 26)
  have P1 := hiddenG (blkA_new 26 u1 #[.string (str G.name), .slice x1 G.actors.length d1, .slice x2 G.edges.length d2, .slice x3 G.ins.length d3, .slice x4 G.outs.length d4])
  have bt := D1.out.trans (bv.mono D1.out.size)
  have B2 := hiddenG (B0.out.trans (bt.mono B0.out.size))
  have O1 := hiddenG (J1.out.later bv)
  have BB : Hid (Below u1.heap.size u1 (u1.alloc (.cells #[.string (str G.name), .slice x1 G.actors.length d1, .slice x2 G.edges.length d2, .slice x3 G.ins.length d3, .slice x4 G.outs.length d4] 26))) := bv
  have Z1 : Hid (w.heap.size ≤ u1.heap.size) := D1.out.size
  have Z2 : Hid (u1.heap.size ≤ (u1.alloc (.cells #[.string (str G.name), .slice x1 G.actors.length d1, .slice x2 G.edges.length d2, .slice x3 G.ins.length d3, .slice x4 G.outs.length d4] 26)).heap.size) := bv.size
  clear bv bt D1
  obtain ⟨q1, hq1⟩ : ∃ q, u1.heap.size = q := ⟨_, rfl⟩
  rw [hq1] at P1 ⊢
  clear hq1
  generalize u1.alloc (.cells #[.string (str G.name), .slice x1 G.actors.length d1, .slice x2 G.edges.length d2, .slice x3 G.ins.length d3, .slice x4 G.outs.length d4] 26) = w2 at *
  go_upto_region 3 with (go_at_call 9; (with_reducible refine (SP.out w2 B2.out).mono ?_); rintro e u3 ⟨y1, y2, y3, y4, e1, e2, e3, e4, Bs, Fs, rfl, hO, b3⟩; have J2 := hiddenG hO; have D3 := hiddenG b3; clear hO b3)
  have bv := (Below.refl u3.heap.size u3).alloc (Nat.le_refl _) (.cells #[.string (str G.name), .slice y1 G.actors.length e1, .slice y2 G.edges.length e2, .slice y3 G.ins.length e3, .slice y4 G.outs.length e4] 26)
  have P2 := hiddenG (blkA_new 26 u3 #[.string (str G.name), .slice y1 G.actors.length e1, .slice y2 G.edges.length e2, .slice y3 G.ins.length e3, .slice y4 G.outs.length e4])
  have bt := D3.out.trans (bv.mono D3.out.size)
  have B4 := hiddenG (B2.out.trans (bt.mono B2.out.size))
  have P1 := hiddenG (P1.out.below bt)
  have O1 := hiddenG (O1.out.later bt)
  have BB := hiddenG (BB.out.trans (bt.mono BB.out.size))
  have O2 := hiddenG (J2.out.later bv)
  have Z3 : Hid (w2.heap.size ≤ (u3.alloc (.cells #[.string (str G.name), .slice y1 G.actors.length e1, .slice y2 G.edges.length e2, .slice y3 G.ins.length e3, .slice y4 G.outs.length e4] 26)).heap.size) := bt.size
  clear bv bt D3 B2 SP J2
  generalize u3.heap.size = q2 at *
  generalize u3.alloc (.cells #[.string (str G.name), .slice y1 G.actors.length e1, .slice y2 G.edges.length e2, .slice y3 G.ins.length e3, .slice y4 G.outs.length e4] 26) = w4 at *
  go_upto_region 4 with (go_at_call 10; (with_reducible refine (RP.out w4).mono ?_); rintro e u5 ⟨z1, z2, z3, z4, f1, f2, f3, f4, rfl, hg, b5⟩; have GR := hiddenG (hg _ fun _ _ _ => rfl); have D5 := hiddenG b5; clear hg b5)
  have c1 := (Below.refl u5.heap.size u5).alloc (Nat.le_refl _) (.cells #[.string (str G.name), .slice z1 G.actors.length f1, .slice z2 G.edges.length f2, .slice z3 G.ins.length f3, .slice z4 G.outs.length f4] 26)
  have c2 := (Below.refl _ _).alloc (Nat.le_refl _) (.cells #[.int .i64 cd, .int .i64 pl] 33) (w := u5.alloc (.cells #[.string (str G.name), .slice z1 G.actors.length f1, .slice z2 G.edges.length f2, .slice z3 G.ins.length f3, .slice z4 G.outs.length f4] 26))
  have bv := c1.trans (c2.mono c1.size)
  have P3 := hiddenG ((blkA_new 26 u5 #[.string (str G.name), .slice z1 G.actors.length f1, .slice z2 G.edges.length f2, .slice z3 G.ins.length f3, .slice z4 G.outs.length f4]).below c2)
  have F3 : Hid (BlkA 33 (u5.heap.size + 1) ((u5.alloc (.cells #[.string (str G.name), .slice z1 G.actors.length f1, .slice z2 G.edges.length f2, .slice z3 G.ins.length f3, .slice z4 G.outs.length f4] 26)).alloc (.cells #[.int .i64 cd, .int .i64 pl] 33)) #[.int .i64 cd, .int .i64 pl]) := by
    have r := blkA_new 33 (u5.alloc (.cells #[.string (str G.name), .slice z1 G.actors.length f1, .slice z2 G.edges.length f2, .slice z3 G.ins.length f3, .slice z4 G.outs.length f4] 26)) #[.int .i64 cd, .int .i64 pl]
    rw [World.size_alloc] at r
    exact r
  have bt := D5.out.trans (bv.mono D5.out.size)
  have B6 := hiddenG (B4.out.trans (bt.mono B4.out.size))
  have P1 := hiddenG (P1.out.below bt)
  have P2 := hiddenG (P2.out.below bt)
  have O1 := hiddenG (O1.out.later bt)
  have O2 := hiddenG (O2.out.later bt)
  have BB := hiddenG (BB.out.trans (bt.mono BB.out.size))
  have G6 := hiddenG (GR.out.below bv)
  have Z4 : Hid (w2.heap.size ≤ ((u5.alloc (.cells #[.string (str G.name), .slice z1 G.actors.length f1, .slice z2 G.edges.length f2, .slice z3 G.ins.length f3, .slice z4 G.outs.length f4] 26)).alloc (.cells #[.int .i64 cd, .int .i64 pl] 33)).heap.size) := Nat.le_trans Z3.out bt.size
  clear c1 c2 bv bt D5 B4 GR RP Z3
  generalize u5.heap.size = q3 at *
  generalize (u5.alloc (.cells #[.string (str G.name), .slice z1 G.actors.length f1, .slice z2 G.edges.length f2, .slice z3 G.ins.length f3, .slice z4 G.outs.length f4] 26)).alloc (.cells #[.int .i64 cd, .int .i64 pl] 33) = w6 at *
  go_upto_region 5 with (go_at_call 11; (with_reducible refine (FA.out w6 B6.out).mono ?_); rintro e w7 ⟨rfl, b7⟩; have D7 := hiddenG b7; clear b7)
  have bv := (Below.refl w7.heap.size w7).alloc (Nat.le_refl _) (.cells #[.int .i64 cd, .int .i64 pl] 33)
  have F4 := hiddenG (blkA_new 33 w7 #[.int .i64 cd, .int .i64 pl])
  have bt := D7.out.trans (bv.mono D7.out.size)
  have B8 := hiddenG (B6.out.trans (bt.mono B6.out.size))
  have P1 := hiddenG (P1.out.below bt)
  have P2 := hiddenG (P2.out.below bt)
  have P3 := hiddenG (P3.out.below bt)
  have F3 := hiddenG (F3.out.below bt)
  have O1 := hiddenG (O1.out.later bt)
  have O2 := hiddenG (O2.out.later bt)
  have G6 := hiddenG (G6.out.below bt)
  have BB := hiddenG (BB.out.trans (bt.mono BB.out.size))
  have Z4 : Hid (w2.heap.size ≤ (w7.alloc (.cells #[.int .i64 cd, .int .i64 pl] 33)).heap.size) := Nat.le_trans Z4.out bt.size
  clear bv bt D7 B6
  generalize w7.heap.size = q4 at *
  generalize w7.alloc (.cells #[.int .i64 cd, .int .i64 pl] 33) = w8 at *
  go_upto_region 6 with (go_at_call 11; (with_reducible refine (FA.out w8 B8.out).mono ?_); rintro e w9 ⟨rfl, b9⟩; have D9 := hiddenG b9; clear b9)
  have bv := (Below.refl w9.heap.size w9).alloc (Nat.le_refl _) (.cells #[.int .i64 cd, .int .i64 pl] 33)
  have F5 := hiddenG (blkA_new 33 w9 #[.int .i64 cd, .int .i64 pl])
  have bt := D9.out.trans (bv.mono D9.out.size)
  have B10 := hiddenG (B8.out.trans (bt.mono B8.out.size))
  have P1 := hiddenG (P1.out.below bt)
  have P2 := hiddenG (P2.out.below bt)
  have P3 := hiddenG (P3.out.below bt)
  have F3 := hiddenG (F3.out.below bt)
  have F4 := hiddenG (F4.out.below bt)
  have O1 := hiddenG (O1.out.later bt)
  have O2 := hiddenG (O2.out.later bt)
  have G6 := hiddenG (G6.out.below bt)
  have BB := hiddenG (BB.out.trans (bt.mono BB.out.size))
  have Z4 : Hid (w2.heap.size ≤ (w9.alloc (.cells #[.int .i64 cd, .int .i64 pl] 33)).heap.size) := Nat.le_trans Z4.out bt.size
  clear bv bt D9 B8 FA
  generalize w9.heap.size = q5 at *
  generalize w9.alloc (.cells #[.int .i64 cd, .int .i64 pl] 33) = v0 at *
  have SA : Hid (∀ U, Below v0.heap.size v0 U → Calls Tryz.prog 12 #[.agg #[.string (str G.name), .slice x1 G.actors.length d1, .slice x2 G.edges.length d2, .slice x3 G.ins.length d3, .slice x4 G.outs.length d4], .agg #[.string (str G.name), .slice z1 G.actors.length f1, .slice z2 G.edges.length f2, .slice z3 G.ins.length f3, .slice z4 G.outs.length f4]] U fun e w' => e = .returned (.bool true) ∧ Below U.heap.size U w') := fun U hU => same_builtP (O1.out.later hU) (G6.out.below hU) LL.out
  have SC : Hid (∀ U, Below v0.heap.size v0 U → Calls Tryz.prog 12 #[.agg #[.string (str G.name), .slice y1 G.actors.length e1, .slice y2 G.edges.length e2, .slice y3 G.ins.length e3, .slice y4 G.outs.length e4], .agg #[.string (str G.name), .slice z1 G.actors.length f1, .slice z2 G.edges.length f2, .slice z3 G.ins.length f3, .slice z4 G.outs.length f4]] U fun e w' => e = .returned (.bool true) ∧ Below U.heap.size U w') := fun U hU => same_builtP (O2.out.later hU) (G6.out.below hU) LL.out
  have AP : Hid (∀ U, Below v0.heap.size v0 U → Calls Tryz.prog 14 #[.agg #[.string (str G.name), .slice x1 G.actors.length d1, .slice x2 G.edges.length d2, .slice x3 G.ins.length d3, .slice x4 G.outs.length d4], .agg #[.string (str G.name), .slice y1 G.actors.length e1, .slice y2 G.edges.length e2, .slice y3 G.ins.length e3, .slice y4 G.outs.length e4]] U fun e w' => e = .returned (.bool true) ∧ Below w.heap.size U w') := fun U hU => apart_built J1.out (BB.out.trans (hU.mono BB.out.size)) (O2.out.later hU) Z1.out Z2.out (Nat.le_trans Z4.out hU.size) LL.out.1 LL.out.2.1 LL.out.2.2.1 LL.out.2.2.2
  clear J1 O1 O2 G6 BB LL Z1 Z2 Z4
  have U0 := hiddenG (Below.refl v0.heap.size v0)
  have nc1 : (cd != cd) = false := by simp
  have nc2 : (cd == cd) = true := by simp
  have np1 : (pl != pl) = false := by simp
  have np2 : (pl == pl) = true := by simp
  have i0 : v0.cell? ⟨q4, 0, none⟩ = some (.int .i64 cd) := F4.out.cell rfl
  have i1 : v0.cell? ⟨q4, 1, none⟩ = some (.int .i64 pl) := F4.out.cell rfl
  have j0 : v0.cell? ⟨q5, 0, none⟩ = some (.int .i64 cd) := F5.out.cell rfl
  have j1 : v0.cell? ⟨q5, 1, none⟩ = some (.int .i64 pl) := F5.out.cell rfl
  have m0 : v0.cell? ⟨q3 + 1, 0, none⟩ = some (.int .i64 cd) := F3.out.cell rfl
  have m1 : v0.cell? ⟨q3 + 1, 1, none⟩ = some (.int .i64 pl) := F3.out.cell rfl
  have g0 : v0.cell? ⟨q1, 0, none⟩ = some (.string (str G.name)) := P1.out.cell rfl
  have g1 : v0.cell? ⟨q1, 1, none⟩ = some (.slice x1 G.actors.length d1) := P1.out.cell rfl
  have g2 : v0.cell? ⟨q1, 2, none⟩ = some (.slice x2 G.edges.length d2) := P1.out.cell rfl
  have g3 : v0.cell? ⟨q1, 3, none⟩ = some (.slice x3 G.ins.length d3) := P1.out.cell rfl
  have g4 : v0.cell? ⟨q1, 4, none⟩ = some (.slice x4 G.outs.length d4) := P1.out.cell rfl
  have h0 : v0.cell? ⟨q3, 0, none⟩ = some (.string (str G.name)) := P3.out.cell rfl
  have h1 : v0.cell? ⟨q3, 1, none⟩ = some (.slice z1 G.actors.length f1) := P3.out.cell rfl
  have h2 : v0.cell? ⟨q3, 2, none⟩ = some (.slice z2 G.edges.length f2) := P3.out.cell rfl
  have h3 : v0.cell? ⟨q3, 3, none⟩ = some (.slice z3 G.ins.length f3) := P3.out.cell rfl
  have h4 : v0.cell? ⟨q3, 4, none⟩ = some (.slice z4 G.outs.length f4) := P3.out.cell rfl
  go_upto_region 8 with (first | (go_at_call 12; (with_reducible refine (SA.out v0 U0.out).mono ?_); rintro e p1 ⟨rfl, bx⟩; have U1 := hiddenG (U0.out.trans (bx.mono U0.out.size)); clear bx; clear i0 i1 j0 j1 m0 m1 g0 g1 g2 g3 g4 h0 h1 h2 h3 h4; have g0 : p1.cell? ⟨q2, 0, none⟩ = some (.string (str G.name)) := (P2.out.below U1.out).cell rfl; have g1 : p1.cell? ⟨q2, 1, none⟩ = some (.slice y1 G.actors.length e1) := (P2.out.below U1.out).cell rfl; have g2 : p1.cell? ⟨q2, 2, none⟩ = some (.slice y2 G.edges.length e2) := (P2.out.below U1.out).cell rfl; have g3 : p1.cell? ⟨q2, 3, none⟩ = some (.slice y3 G.ins.length e3) := (P2.out.below U1.out).cell rfl; have g4 : p1.cell? ⟨q2, 4, none⟩ = some (.slice y4 G.outs.length e4) := (P2.out.below U1.out).cell rfl; have h0 : p1.cell? ⟨q3, 0, none⟩ = some (.string (str G.name)) := (P3.out.below U1.out).cell rfl; have h1 : p1.cell? ⟨q3, 1, none⟩ = some (.slice z1 G.actors.length f1) := (P3.out.below U1.out).cell rfl; have h2 : p1.cell? ⟨q3, 2, none⟩ = some (.slice z2 G.edges.length f2) := (P3.out.below U1.out).cell rfl; have h3 : p1.cell? ⟨q3, 3, none⟩ = some (.slice z3 G.ins.length f3) := (P3.out.below U1.out).cell rfl; have h4 : p1.cell? ⟨q3, 4, none⟩ = some (.slice z4 G.outs.length f4) := (P3.out.below U1.out).cell rfl) | (go_at_call 12; (with_reducible refine (SC.out _ U1.out).mono ?_); rintro e p2 ⟨rfl, bx⟩; have U2 := hiddenG (U1.out.trans (bx.mono U1.out.size)); clear bx; clear g0 g1 g2 g3 g4 h0 h1 h2 h3 h4))
  go_wp2_with (first | (go_at_call 13; (with_reducible refine (AW.out _ (B10.out.trans (U2.out.mono B10.out.size))).mono ?_); rintro e p3 ⟨rfl, bx⟩; have U3 := hiddenG (U2.out.trans (bx.mono U2.out.size)); clear bx; have g0 : p3.cell? ⟨q1, 0, none⟩ = some (.string (str G.name)) := (P1.out.below U3.out).cell rfl; have g1 : p3.cell? ⟨q1, 1, none⟩ = some (.slice x1 G.actors.length d1) := (P1.out.below U3.out).cell rfl; have g2 : p3.cell? ⟨q1, 2, none⟩ = some (.slice x2 G.edges.length d2) := (P1.out.below U3.out).cell rfl; have g3 : p3.cell? ⟨q1, 3, none⟩ = some (.slice x3 G.ins.length d3) := (P1.out.below U3.out).cell rfl; have g4 : p3.cell? ⟨q1, 4, none⟩ = some (.slice x4 G.outs.length d4) := (P1.out.below U3.out).cell rfl; have h0 : p3.cell? ⟨q2, 0, none⟩ = some (.string (str G.name)) := (P2.out.below U3.out).cell rfl; have h1 : p3.cell? ⟨q2, 1, none⟩ = some (.slice y1 G.actors.length e1) := (P2.out.below U3.out).cell rfl; have h2 : p3.cell? ⟨q2, 2, none⟩ = some (.slice y2 G.edges.length e2) := (P2.out.below U3.out).cell rfl; have h3 : p3.cell? ⟨q2, 3, none⟩ = some (.slice y3 G.ins.length e3) := (P2.out.below U3.out).cell rfl; have h4 : p3.cell? ⟨q2, 4, none⟩ = some (.slice y4 G.outs.length e4) := (P2.out.below U3.out).cell rfl) | (go_at_call 14; (with_reducible refine (AP.out _ U3.out).mono ?_); rintro e p5 ⟨rfl, bx⟩; have U5 : Hid (Below w.heap.size w p5) := (B10.out.trans (U3.out.mono B10.out.size)).trans bx; clear bx; clear g0 g1 g2 g3 g4 h0 h1 h2 h3 h4))
  go_ret
  exact ⟨rfl, U5.out⟩
end Go.Proofs.YtolpelfdhcccnaaGreatDoor
