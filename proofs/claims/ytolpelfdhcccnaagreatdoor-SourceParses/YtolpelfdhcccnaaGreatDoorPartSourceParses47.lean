/- Texts of one chain, laid one behind the other. -/
import Derived.Test.YtolpelfdhcccnaaGreatDoorPartSourceParses46
import Derived.Test.YtolpelfdhcccnaaGreatDoorPartSourceParses45
import Derived.Test.YtolpelfdhcccnaaGreatDoorPartSourceParses33
import Derived.Test.YtolpelfdhcccnaaGreatDoorPartSourceParses26
import Derived.Test.YtolpelfdhcccnaaGreatDoorPartSourceParses43
namespace Go.Proofs.YtolpelfdhcccnaaGreatDoor
open Go.ChangeShapes Go.WideShapes Go.ChangeAt Go.RowKit
/-- What source reads of a text: a graph, an error, its place. -/
def srcK (l : List UInt8) : List Itm := (outP l).2.1.map cvI
def srcB (l : List UInt8) : Int × Int := if (outP l).2.2.1 ≠ 0 then (outP l).2.2 else (buildS (outP l).1 (srcK l)).2
def srcG (l : List UInt8) : GG := if (outP l).2.2.1 ≠ 0 then gg0 else bG (outP l).1 (srcK l)
def errV (cd pl : Int) : Value := if cd = 0 then .nilIface else .iface 33 (.agg #[.int .i64 cd, .int .i64 pl])
/-- How source.Parse ends. -/
def SrcE (w : World) (G : GG) (cd pl : Int) (e : Ending) (w' : World) : Prop := ∃ x1 x2 x3 x4 d1 d2 d3 d4 As Es, e = .returned (.tuple #[.agg #[.string (str G.name), .slice x1 G.actors.length d1, .slice x2 G.edges.length d2, .slice x3 G.ins.length d3, .slice x4 G.outs.length d4], errV cd pl]) ∧ BO w.heap.size w' G x1 x2 x3 x4 d1 d2 d3 d4 As Es ∧ Below w.heap.size w w'
theorem srcE_no {w w' : World} {cd pl : Int} (h : cd ≠ 0) (hb : Below w.heap.size w w') : SrcE w gg0 cd pl (.returned (.tuple #[.agg #[.string ⟨#[]⟩, .slice none 0 0, .slice none 0 0, .slice none 0 0, .slice none 0 0], .iface 33 (.agg #[.int .i64 cd, .int .i64 pl])])) w' := by
  refine ⟨none, none, none, none, 0, 0, 0, 0, [], [], ?_, ⟨own_none, rfl, rfl, fun p hp => by (cases hp), fun p hp => by (cases hp)⟩, hb⟩
  unfold errV
  rw [if_neg h]
  rfl
/-- How sketch.Parse ends, with items as graph takes them. -/
def SkE (w : World) (nm : List UInt8) (K : List Itm) (cd pl : Int) (e : Ending) (w' : World) : Prop := ∃ a n c M, e = .returned (.tuple #[.agg #[.string (str nm), .slice a n c], .agg #[.int .i64 cd, .int .i64 pl]]) ∧ (cd = 0 → pl = 0 ∧ M.map Prod.fst = K ∧ M.length = n ∧ n ≤ 2000000 ∧ ItR w' a M ∧ ItO w' M) ∧ Below w.heap.size w w'
theorem skE_of {l : List UInt8} {w w' : World} {e : Ending} (h : ParseEnd w l e w') : SkE w (outP l).1 (srcK l) (outP l).2.2.1 (outP l).2.2.2 e w' := by
  obtain ⟨h, hb⟩ := h
  unfold srcK outP
  rcases h with ⟨h0, rfl⟩ | ⟨h0, j, hs, rfl⟩ | ⟨h0, s, j, a, c, L, hs, rfl, hL, hI⟩
  · rw [if_pos h0]
    exact ⟨none, 0, 0, [], rfl, fun e => absurd e h0, hb⟩
  · rw [if_neg (fun x => x h0), hs]
    exact ⟨none, 0, 0, [], rfl, fun e => absurd (show (50 : Int) = 0 from e) (by decide), hb⟩
  · rw [if_neg (fun x => x h0), hs]
    obtain ⟨h1, h2, h3, h4⟩ := text_ito h0 hs hL hI
    exact ⟨a, s.items.length, c, cvL L, rfl, fun _ => ⟨rfl, by rw [cv_fst, ← hL], h3, h4, h1, h2⟩, hb⟩
set_option maxRecDepth 100000 in
set_option maxHeartbeats 16000000 in
theorem srcParse_any (l : List UInt8) (w : World) (hE : Env w) : Calls Tryz.prog 9 #[.string (str l)] w (SrcE w (srcG l) (srcB l).1 (srcB l).2) := by
  have ba := (Below.refl w.heap.size w).alloc (Nat.le_refl _) (.cells #[.string ⟨#[]⟩, .slice none 0 0, .slice none 0 0, .slice none 0 0, .slice none 0 0] 26)
  have rb := blkA_new 26 w #[.string ⟨#[]⟩, .slice none 0 0, .slice none 0 0, .slice none 0 0, .slice none 0 0]
  have SP : Hid (Calls Tryz.prog 22 #[.string (str l)] (w.alloc (.cells #[.string ⟨#[]⟩, .slice none 0 0, .slice none 0 0, .slice none 0 0, .slice none 0 0] 26)) (SkE (w.alloc (.cells #[.string ⟨#[]⟩, .slice none 0 0, .slice none 0 0, .slice none 0 0, .slice none 0 0] 26)) (outP l).1 (srcK l) (outP l).2.2.1 (outP l).2.2.2)) := (parse_any l _ (hE.below ba)).mono fun e w' hh => skE_of hh
  obtain ⟨RE, hRE⟩ : ∃ R, SrcE w (srcG l) (srcB l).1 (srcB l).2 = R := ⟨_, rfl⟩
  rw [hRE]
  have HRE := hiddenG hRE
  unfold srcG srcB at HRE
  obtain ⟨nm, hnm⟩ : ∃ q, (outP l).1 = q := ⟨_, rfl⟩
  obtain ⟨K, hK⟩ : ∃ q, srcK l = q := ⟨_, rfl⟩
  obtain ⟨cd, pl, hcp⟩ : ∃ cd pl, (outP l).2.2 = (cd, pl) := ⟨_, _, rfl⟩
  rw [hnm, hK, hcp] at SP HRE
  unfold SkE at SP
  simp only at SP HRE
  have BA := hiddenG ba
  have RB := hiddenG rb
  clear ba rb hRE hnm hK hcp hE
  go_enter Tryz.func9, Tryz.ntmps9
  go_upto_region 1 with fail
  generalize w.alloc (.cells #[.string ⟨#[]⟩, .slice none 0 0, .slice none 0 0, .slice none 0 0, .slice none 0 0] 26) = W0 at *
  go_upto_region 2 with (go_at_call 22; (with_reducible refine SP.out.mono ?_); rintro e u1 ⟨a, n, c, M, rfl, hM, b1⟩; have HM := hiddenG hM; have B1 := hiddenG (BA.out.trans (b1.mono BA.out.size)); have R1 := hiddenG (RB.out.below b1); clear hM b1)
  clear SP BA RB
  have c1 := (Below.refl u1.heap.size u1).alloc (Nat.le_refl _) (.cells #[.string (str nm), .slice a n c] 52)
  have c2 := (Below.refl _ _).alloc (Nat.le_refl _) (.cells #[.int .i64 cd, .int .i64 pl] 33) (w := u1.alloc (.cells #[.string (str nm), .slice a n c] 52))
  have cc := c1.trans (c2.mono c1.size)
  have X2 := hiddenG ((blkA_new 52 u1 #[.string (str nm), .slice a n c]).below c2)
  have F2 : Hid (BlkA 33 (u1.heap.size + 1) ((u1.alloc (.cells #[.string (str nm), .slice a n c] 52)).alloc (.cells #[.int .i64 cd, .int .i64 pl] 33)) #[.int .i64 cd, .int .i64 pl]) := by
    have r := blkA_new 33 (u1.alloc (.cells #[.string (str nm), .slice a n c] 52)) #[.int .i64 cd, .int .i64 pl]
    rw [World.size_alloc] at r
    exact r
  have B2 := hiddenG (B1.out.trans (cc.mono B1.out.size))
  have R2 := hiddenG (R1.out.below cc)
  have M2 : Hid (cd = 0 → pl = 0 ∧ M.map Prod.fst = K ∧ M.length = n ∧ n ≤ 2000000 ∧ ItR ((u1.alloc (.cells #[.string (str nm), .slice a n c] 52)).alloc (.cells #[.int .i64 cd, .int .i64 pl] 33)) a M ∧ ItO ((u1.alloc (.cells #[.string (str nm), .slice a n c] 52)).alloc (.cells #[.int .i64 cd, .int .i64 pl] 33)) M) := fun e => by
    obtain ⟨h0, h1, h2, h3, h4, h5⟩ := HM.out e
    exact ⟨h0, h1, h2, h3, h4.below cc, h5.below cc⟩
  have SZ : Hid (w.heap.size < u1.heap.size) := R1.out.lt
  clear c1 c2 cc B1 R1 HM
  obtain ⟨sb, hsb⟩ : ∃ q, u1.heap.size = q := ⟨_, rfl⟩
  rw [hsb] at X2 F2 SZ ⊢
  clear hsb
  obtain ⟨fb, hfb⟩ : ∃ q, sb + 1 = q := ⟨_, rfl⟩
  have HFB := hiddenG hfb
  rw [hfb] at F2 ⊢
  clear hfb
  have HNE : Hid (fb ≠ w.heap.size) := by show ¬ _; have := SZ.out; have := HFB.out; omega
  generalize (u1.alloc (.cells #[.string (str nm), .slice a n c] 52)).alloc (.cells #[.int .i64 cd, .int .i64 pl] 33) = w2 at *
  have y0 : w2.cell? ⟨fb, 0, none⟩ = some (.int .i64 cd) := F2.out.cell rfl
  have y1 : w2.cell? ⟨fb, 1, none⟩ = some (.int .i64 pl) := F2.out.cell rfl
  have IF : Hid (∀ (c p : Int) U, Calls Tryz.prog 24 #[.agg #[.int .i64 c, .int .i64 p]] U fun e w' => e = .returned (.bool (c != 0 || p != 0)) ∧ Below U.heap.size U w') := fun c p U => isFault_any c p U
  have Y : (cd != 0 || pl != 0) = (cd != 0) ∨ cd = 0 ∧ pl ≠ 0 := by
    by_cases h1 : cd = 0
    · by_cases h2 : pl = 0
      · left; simp [h1, h2]
      · right; exact ⟨h1, h2⟩
    · left; simp [h1]
  by_cases hc0 : cd = 0
  · obtain ⟨hp0, hM1, hM2, hM3, hM4, hM5⟩ := M2.out hc0
    subst hc0 hp0
    clear Y
    obtain ⟨c2, p2, hB⟩ : ∃ c2 p2, (buildS nm K).2 = (c2, p2) := ⟨_, _, rfl⟩
    have BD : Hid (∀ U, Below w2.heap.size w2 U → Calls Tryz.prog 23 #[.agg #[.string (str nm), .slice a n c]] U (BldO U (bG nm K) c2 p2)) := fun U hU => bld_one nm a n c M U hM2 (hM4.below hU) (hM5.below hU) hM3 hM1 hB
    have HZ : Hid (c2 = 0 → p2 = 0) := fun e => by
      have z := build_zero (nm := nm) (K := K) (by rw [hB]; exact e)
      rw [z.1] at hB
      cases hB
      rfl
    have EG : Hid (c2 ≠ 0 → bG nm K = gg0) := fun e => by
      unfold bG
      rw [if_neg (by rw [hB]; exact e)]
    have HB2 := hiddenG hB
    obtain ⟨G, hG⟩ : ∃ G, bG nm K = G := ⟨_, rfl⟩
    rw [hG] at BD EG
    have HG := hiddenG hG
    unfold BldO at BD
    clear hG hB hM1 hM2 hM3 hM4 hM5 M2
    have IZ : Hid (∀ U, Calls Tryz.prog 24 #[.agg #[.int .i64 0, .int .i64 0]] U fun e w' => e = .returned (.bool false) ∧ Below U.heap.size U w') := fun U => IF.out 0 0 U
    go_upto_region 4 with (go_at_call 24; (with_reducible refine (IZ.out _).mono ?_); rintro e w3 ⟨rfl, b3⟩; have F3 := hiddenG (F2.out.below b3); have R3 := hiddenG (R2.out.below b3); have X3 := hiddenG (X2.out.below b3); have B3 := hiddenG (B2.out.trans (b3.mono B2.out.size)); have D3 := hiddenG b3; clear b3 y0 y1)
    clear F2 R2 X2 B2
    have y0 : w3.cell? ⟨sb, 0, none⟩ = some (.string (str nm)) := X3.out.cell rfl
    have y1 : w3.cell? ⟨sb, 1, none⟩ = some (.slice a n c) := X3.out.cell rfl
    go_upto_region 5 with (first
      | (go_at_call 23; (with_reducible refine (BD.out w3 D3.out).mono ?_); rintro e u4 ⟨x1, x2, x3, x4, d1, d2, d3, d4, As, Es, rfl, hO, b4⟩; have O4 := hiddenG hO; have D4 := hiddenG b4; have F4 : Hid (BlkA 33 fb (u4.alloc (.cells #[.string (str G.name), .slice x1 G.actors.length d1, .slice x2 G.edges.length d2, .slice x3 G.ins.length d3, .slice x4 G.outs.length d4] 26)) #[.int .i64 0, .int .i64 0]) := (F3.out.below b4).below ((Below.refl _ _).alloc (Nat.le_refl _) _); clear hO b4 y0 y1)
      | (refine wpList_storeW _ rfl 33 (.tmp 5) (.tmp 21) rfl rfl fb 33 _ _ rfl rfl F4.out sizU rfl rfl ?_; intro w5 hN hU; have N5 := hiddenG hN; have U5 := hiddenG hU; clear hN hU))
    have FL : Hid (fb < w3.heap.size) := F3.out.lt
    have bv := (Below.refl u4.heap.size u4).alloc (Nat.le_refl _) (.cells #[.string (str G.name), .slice x1 G.actors.length d1, .slice x2 G.edges.length d2, .slice x3 G.ins.length d3, .slice x4 G.outs.length d4] 26)
    have bt := D4.out.trans (bv.mono D4.out.size)
    have G5 : Hid (BlkA 26 u4.heap.size w5 #[.string (str G.name), .slice x1 G.actors.length d1, .slice x2 G.edges.length d2, .slice x3 G.ins.length d3, .slice x4 G.outs.length d4]) := (blkA_new 26 u4 #[.string (str G.name), .slice x1 G.actors.length d1, .slice x2 G.edges.length d2, .slice x3 G.ins.length d3, .slice x4 G.outs.length d4]).keep (U5.out.block _ (blkA_new 26 u4 #[.string (str G.name), .slice x1 G.actors.length d1, .slice x2 G.edges.length d2, .slice x3 G.ins.length d3, .slice x4 G.outs.length d4]).lt (by have := FL.out; have := D4.out.size; omega))
    have R5 : Hid (BlkA 26 w.heap.size w5 #[.string ⟨#[]⟩, .slice none 0 0, .slice none 0 0, .slice none 0 0, .slice none 0 0]) := (R3.out.below bt).keep (U5.out.block _ (R3.out.below bt).lt HNE.out.symm)
    have O5 : Hid (BO w3.heap.size w5 G x1 x2 x3 x4 d1 d2 d3 d4 As Es) := by
      have q := O4.out.later bv
      exact ⟨q.own.keep fun k hk hk2 => U5.out.block k hk2 (by have := FL.out; omega), q.a, q.e, q.na, q.ne⟩
    have B5 : Hid (Below w.heap.size w w5) := (B3.out.trans (bt.mono B3.out.size)).trans (U5.out.below (by have := SZ.out; have := HFB.out; omega) (Nat.le_trans B3.out.size bt.size))
    have Z5 : Hid (w.heap.size ≤ w3.heap.size) := B3.out.size
    have Z6 : Hid (w.heap.size < w3.heap.size) := R3.out.lt
    clear bv bt F3 R3 X3 B3 D3 BD O4 D4 F4 U5 FL
    generalize u4.heap.size = gb at *
    have y0 : w5.cell? ⟨fb, 0, none⟩ = some (.int .i64 c2) := N5.out.cell rfl
    have y1 : w5.cell? ⟨fb, 1, none⟩ = some (.int .i64 p2) := N5.out.cell rfl
    by_cases hc2 : c2 = 0
    · have hp2 := HZ.out hc2
      subst hc2 hp2
      go_upto_region 7 with (go_at_call 24; (with_reducible refine (IZ.out _).mono ?_); rintro e w6 ⟨rfl, b6⟩; have R6 := hiddenG (R5.out.below b6); have G6 := hiddenG (G5.out.below b6); have O6 := hiddenG (O5.out.later b6); have B6 := hiddenG (B5.out.trans (b6.mono B5.out.size)); clear b6 y0 y1)
      clear R5 G5 O5 B5 N5
      have g0 : w6.cell? ⟨gb, 0, none⟩ = some (.string (str G.name)) := G6.out.cell rfl
      have g1 : w6.cell? ⟨gb, 1, none⟩ = some (.slice x1 G.actors.length d1) := G6.out.cell rfl
      have g2 : w6.cell? ⟨gb, 2, none⟩ = some (.slice x2 G.edges.length d2) := G6.out.cell rfl
      have g3 : w6.cell? ⟨gb, 3, none⟩ = some (.slice x3 G.ins.length d3) := G6.out.cell rfl
      have g4 : w6.cell? ⟨gb, 4, none⟩ = some (.slice x4 G.outs.length d4) := G6.out.cell rfl
      go_wp2_with (refine wpList_storeW _ rfl 26 (.tmp 2) (.tmp 27) rfl rfl w.heap.size 26 _ _ rfl rfl R6.out sizG rfl rfl ?_; intro w8 hN hU; have N8 := hiddenG hN; have U8 := hiddenG hU; clear hN hU)
      have t0 : w8.cell? ⟨w.heap.size, 0, none⟩ = some (.string (str G.name)) := N8.out.cell rfl
      have t1 : w8.cell? ⟨w.heap.size, 1, none⟩ = some (.slice x1 G.actors.length d1) := N8.out.cell rfl
      have t2 : w8.cell? ⟨w.heap.size, 2, none⟩ = some (.slice x2 G.edges.length d2) := N8.out.cell rfl
      have t3 : w8.cell? ⟨w.heap.size, 3, none⟩ = some (.slice x3 G.ins.length d3) := N8.out.cell rfl
      have t4 : w8.cell? ⟨w.heap.size, 4, none⟩ = some (.slice x4 G.outs.length d4) := N8.out.cell rfl
      refine bodyPost_ret (v := .tuple #[.agg #[.string (str G.name), .slice x1 G.actors.length d1, .slice x2 G.edges.length d2, .slice x3 G.ins.length d3, .slice x4 G.outs.length d4], .nilIface]) (by simp [results, Tryz.results9, go_sem, t0, t1, t2, t3, t4]) rfl ?_
      rw [← HRE.out, if_neg (fun x => x rfl), if_neg (fun x => x rfl), HB2.out, HG.out]
      have q := O6.out
      exact ⟨x1, x2, x3, x4, d1, d2, d3, d4, As, Es, rfl, ⟨(q.own.keep fun k hk hk2 => U8.out.block k hk2 (by have := Z5.out; have := Z6.out; omega)).mono Z5.out, q.a, q.e, q.na, q.ne⟩, B6.out.trans (U8.out.below (Nat.le_refl _) B6.out.size)⟩
    · have IT : Hid (∀ U, Calls Tryz.prog 24 #[.agg #[.int .i64 c2, .int .i64 p2]] U fun e w' => e = .returned (.bool true) ∧ Below U.heap.size U w') := fun U => (IF.out c2 p2 U).mono fun e w' hh => ⟨by rw [hh.1]; simp [hc2], hh.2⟩
      go_upto_region 6 with (go_at_call 24; (with_reducible refine (IT.out _).mono ?_); rintro e w6 ⟨rfl, b6⟩; have K5 := hiddenG (N5.out.below b6); have K6 := hiddenG (R5.out.below b6); have K7 := hiddenG (B5.out.trans (b6.mono B5.out.size)); clear b6 y0 y1)
      clear R5 G5 O5 B5 N5 IT IZ IF
      have HC2 := hiddenG hc2
      clear hc2
      refine wp_region_gen [3] (fun d i u z => match i with
          | 0 => z = .agg #[.string ⟨#[]⟩, .slice none 0 0, .slice none 0 0, .slice none 0 0, .slice none 0 0]
          | 1 => z = .agg #[.int .i64 c2, .int .i64 p2]
          | 2 => z = .iface 33 (.agg #[.int .i64 c2, .int .i64 p2])
          | 3 => True
          | 4 => z = .iface 33 (.agg #[.int .i64 c2, .int .i64 p2])
          | _ => True) (fun d u => BlkA 33 fb u #[.int .i64 c2, .int .i64 p2] ∧ BlkA 26 w.heap.size u #[.string ⟨#[]⟩, .slice none 0 0, .slice none 0 0, .slice none 0 0, .slice none 0 0] ∧ Below w.heap.size w u) (by kernel_rfl) (by kernel_rfl) (by kernel_rfl) ?_ ?_ ?_ ?_ ?_ ?_ (by kernel_rfl)
      · intro d i w v w' h hb
        match i, h with
        | 0, h => exact h
        | 1, h => exact h
        | 2, h => exact h
        | 3, h => exact h
        | 4, h => exact h
        | _ + 5, _ => trivial
      · intro d u u' h hb
        exact ⟨h.1.below hb, h.2.1.below hb, h.2.2.trans (hb.mono h.2.2.size)⟩
      · exact ⟨K5.out, K6.out, K7.out⟩
      · intro d i o ρ w' hm ho hf hg hC hcs hfs hfr hdep
        match i, hm, ho, hf, hg, hfr, hdep with
        | 0, _, ho, hf, hg, hfr, hdep =>
          simp only [gTA, gCZ, gSI] at ho
          subst ho
          refine ⟨fun _ => ?_, fun hw => absurd (show true = false from hw) (by decide)⟩
          simp [go_sem]
          exact ⟨Below.refl _ _, rfl⟩
        | 1, _, ho, hf, hg, hfr, hdep =>
          simp only [gTA, gCZ, gCS, gSI] at ho
          subst ho
          refine ⟨fun _ => ?_, fun hw => absurd (show true = false from hw) (by decide)⟩
          have ts : ρ (.tmp 5) = .pointer (some ⟨fb, 0, none⟩) := hfr 5 (by kernel_rfl)
          have k0 : w'.cell? ⟨fb, 0, none⟩ = some (.int .i64 c2) := hC.1.cell rfl
          have k1 : w'.cell? ⟨fb, 1, none⟩ = some (.int .i64 p2) := hC.1.cell rfl
          simp [go_sem, ts, k0, k1]
          exact ⟨Below.refl _ _, rfl⟩
        | 2, _, ho, hf, hg, hfr, hdep =>
          simp only [gTA, gCZ, gCS, gSI] at ho
          subst ho
          refine ⟨fun _ => ?_, fun hw => absurd (show true = false from hw) (by decide)⟩
          have ts : ρ (.tmp 25) = .agg #[.int .i64 c2, .int .i64 p2] := hdep 1 25 (by kernel_rfl) (by kernel_rfl)
          simp [go_sem, ts]
          exact ⟨Below.refl _ _, rfl⟩
        | 3, hm, _, _, _, _, _ => exact absurd hm (by decide)
        | 4, _, ho, hf, hg, hfr, hdep =>
          simp only [gTA, gCZ, gCS, gSI] at ho
          subst ho
          refine ⟨fun _ => ?_, fun hw => absurd (show true = false from hw) (by decide)⟩
          have ts : ρ (.tmp 26) = .iface 33 (.agg #[.int .i64 c2, .int .i64 p2]) := hdep 2 26 (by kernel_rfl) (by kernel_rfl)
          simp [go_sem, ts]
          exact ⟨Below.refl _ _, rfl⟩
        | n + 5, _, ho, _, _, _, _ => simp at ho
      · intro d i o ρ w' hm ho h0 hf hg hC hcs hfs hfr hdep
        match i, hm, ho, h0, hf, hg, hfr, hdep with
        | 0, hm, _, _, _, _, _, _ => exact absurd hm (by decide)
        | 1, hm, _, _, _, _, _, _ => exact absurd hm (by decide)
        | 2, hm, _, _, _, _, _, _ => exact absurd hm (by decide)
        | 3, _, ho, h0, hf, hg, hfr, hdep =>
          simp only [gTA, gCZ, gCS, gSI] at ho
          subst ho
          have t0 : ρ (.tmp 24) = .agg #[.string ⟨#[]⟩, .slice none 0 0, .slice none 0 0, .slice none 0 0, .slice none 0 0] := hdep 0 24 (by kernel_rfl) (by kernel_rfl)
          have ts : ρ (.tmp 2) = .pointer (some ⟨w.heap.size, 0, none⟩) := hfr 2 (by kernel_rfl)
          have b8 := hC.2.1
          have z0 : w'.cell? ⟨w.heap.size, 0, none⟩ = some (.string ⟨#[]⟩) := b8.cell rfl
          have z1 : w'.cell? ⟨w.heap.size, 1, none⟩ = some (.slice none 0 0) := b8.cell rfl
          have z2 : w'.cell? ⟨w.heap.size, 2, none⟩ = some (.slice none 0 0) := b8.cell rfl
          have z3 : w'.cell? ⟨w.heap.size, 3, none⟩ = some (.slice none 0 0) := b8.cell rfl
          have z4 : w'.cell? ⟨w.heap.size, 4, none⟩ = some (.slice none 0 0) := b8.cell rfl
          have f0 := b8.frozen 0
          have f1 := b8.frozen 1
          have f2 := b8.frozen 2
          have f3 := b8.frozen 3
          have f4 := b8.frozen 4
          have hB : BlkA 26 w.heap.size (((((w'.setCell ⟨w.heap.size, 0, none⟩ (.string ⟨#[]⟩)).setCell ⟨w.heap.size, 1, none⟩ (.slice none 0 0)).setCell ⟨w.heap.size, 2, none⟩ (.slice none 0 0)).setCell ⟨w.heap.size, 3, none⟩ (.slice none 0 0)).setCell ⟨w.heap.size, 4, none⟩ (.slice none 0 0)) #[.string ⟨#[]⟩, .slice none 0 0, .slice none 0 0, .slice none 0 0, .slice none 0 0] := (((((b8.set 0 (.string ⟨#[]⟩)).set 1 (.slice none 0 0)).set 2 (.slice none 0 0)).set 3 (.slice none 0 0)).set 4 (.slice none 0 0))
          have hbt := ((((But.set w' w.heap.size 0 (.string ⟨#[]⟩)).trans (But.set _ w.heap.size 1 (.slice none 0 0))).trans (But.set _ w.heap.size 2 (.slice none 0 0))).trans (But.set _ w.heap.size 3 (.slice none 0 0))).trans (But.set _ w.heap.size 4 (.slice none 0 0))
          refine ⟨rfl, markUpon_skip (w' := (((((w'.setCell ⟨w.heap.size, 0, none⟩ (.string ⟨#[]⟩)).setCell ⟨w.heap.size, 1, none⟩ (.slice none 0 0)).setCell ⟨w.heap.size, 2, none⟩ (.slice none 0 0)).setCell ⟨w.heap.size, 3, none⟩ (.slice none 0 0)).setCell ⟨w.heap.size, 4, none⟩ (.slice none 0 0))) (by simp [go_sem, ts, t0, z0, z1, z2, z3, z4, f0, f1, f2, f3, f4]) ?_⟩
          refine ⟨⟨hC.1.keep (hbt.block _ hC.1.lt HNE.out), hB, hC.2.2.trans (hbt.below (Nat.le_refl _) hC.2.2.size)⟩, fun h => absurd rfl h, ?_⟩
          intro j t hj hs
          match j, hs with
          | 0, hs => exact hs
          | 1, hs => exact hs
          | 2, hs => exact hs
          | 3, _ => trivial
          | 4, hs => exact hs
          | _ + 5, _ => trivial
        | 4, hm, _, _, _, _, _, _ => exact absurd hm (by decide)
        | n + 5, _, ho, _, _, _, _, _ => simp at ho
      · intro V w9 hC9 hS
        have e4 : V 4 = .iface 33 (.agg #[.int .i64 c2, .int .i64 p2]) := hS 4 (by decide) (by intro h; cases h)
        simp only [puts, put_none, e4]
        simp only [Act.put, List.setIfInBounds_toArray, List.set_cons_zero, List.set_cons_succ]
        clear hS e4
        have N8 : Hid (BlkA 26 w.heap.size w9 #[.string ⟨#[]⟩, .slice none 0 0, .slice none 0 0, .slice none 0 0, .slice none 0 0]) := hC9.2.1
        have B9 : Hid (Below w.heap.size w w9) := hC9.2.2
        clear hC9
        go_wp2
        have t0 : w9.cell? ⟨w.heap.size, 0, none⟩ = some (.string ⟨#[]⟩) := N8.out.cell rfl
        have t1 : w9.cell? ⟨w.heap.size, 1, none⟩ = some (.slice none 0 0) := N8.out.cell rfl
        have t2 : w9.cell? ⟨w.heap.size, 2, none⟩ = some (.slice none 0 0) := N8.out.cell rfl
        have t3 : w9.cell? ⟨w.heap.size, 3, none⟩ = some (.slice none 0 0) := N8.out.cell rfl
        have t4 : w9.cell? ⟨w.heap.size, 4, none⟩ = some (.slice none 0 0) := N8.out.cell rfl
        refine bodyPost_ret (v := .tuple #[.agg #[.string ⟨#[]⟩, .slice none 0 0, .slice none 0 0, .slice none 0 0, .slice none 0 0], .iface 33 (.agg #[.int .i64 c2, .int .i64 p2])]) (by simp [results, Tryz.results9, go_sem, t0, t1, t2, t3, t4]) rfl ?_
        rw [← HRE.out, if_neg (fun x => x rfl), if_neg (fun x => x rfl), HB2.out, HG.out, EG.out HC2.out]
        exact srcE_no HC2.out B9.out
  · have IT : Hid (∀ U, Calls Tryz.prog 24 #[.agg #[.int .i64 cd, .int .i64 pl]] U fun e w' => e = .returned (.bool true) ∧ Below U.heap.size U w') := fun U => (IF.out cd pl U).mono fun e w' hh => ⟨by rw [hh.1]; simp [hc0], hh.2⟩
    go_upto_region 3 with (go_at_call 24; (with_reducible refine (IT.out _).mono ?_); rintro e w3 ⟨rfl, b3⟩; have K5 := hiddenG (F2.out.below b3); have K6 := hiddenG (R2.out.below b3); have K7 := hiddenG (B2.out.trans (b3.mono B2.out.size)); clear b3 y0 y1)
    clear F2 R2 X2 B2 M2 Y IT IF
    have HC0 := hiddenG hc0
    clear hc0
    refine wp_region_gen [3] (fun d i u z => match i with
        | 0 => z = .agg #[.string ⟨#[]⟩, .slice none 0 0, .slice none 0 0, .slice none 0 0, .slice none 0 0]
        | 1 => z = .agg #[.int .i64 cd, .int .i64 pl]
        | 2 => z = .iface 33 (.agg #[.int .i64 cd, .int .i64 pl])
        | 3 => True
        | 4 => z = .iface 33 (.agg #[.int .i64 cd, .int .i64 pl])
        | _ => True) (fun d u => BlkA 33 fb u #[.int .i64 cd, .int .i64 pl] ∧ BlkA 26 w.heap.size u #[.string ⟨#[]⟩, .slice none 0 0, .slice none 0 0, .slice none 0 0, .slice none 0 0] ∧ Below w.heap.size w u) (by kernel_rfl) (by kernel_rfl) (by kernel_rfl) ?_ ?_ ?_ ?_ ?_ ?_ (by kernel_rfl)
    · intro d i w v w' h hb
      match i, h with
      | 0, h => exact h
      | 1, h => exact h
      | 2, h => exact h
      | 3, h => exact h
      | 4, h => exact h
      | _ + 5, _ => trivial
    · intro d u u' h hb
      exact ⟨h.1.below hb, h.2.1.below hb, h.2.2.trans (hb.mono h.2.2.size)⟩
    · exact ⟨K5.out, K6.out, K7.out⟩
    · intro d i o ρ w' hm ho hf hg hC hcs hfs hfr hdep
      match i, hm, ho, hf, hg, hfr, hdep with
      | 0, _, ho, hf, hg, hfr, hdep =>
        simp only [gTA, gCZ, gSI] at ho
        subst ho
        refine ⟨fun _ => ?_, fun hw => absurd (show true = false from hw) (by decide)⟩
        simp [go_sem]
        exact ⟨Below.refl _ _, rfl⟩
      | 1, _, ho, hf, hg, hfr, hdep =>
        simp only [gTA, gCZ, gCS, gSI] at ho
        subst ho
        refine ⟨fun _ => ?_, fun hw => absurd (show true = false from hw) (by decide)⟩
        have ts : ρ (.tmp 5) = .pointer (some ⟨fb, 0, none⟩) := hfr 5 (by kernel_rfl)
        have k0 : w'.cell? ⟨fb, 0, none⟩ = some (.int .i64 cd) := hC.1.cell rfl
        have k1 : w'.cell? ⟨fb, 1, none⟩ = some (.int .i64 pl) := hC.1.cell rfl
        simp [go_sem, ts, k0, k1]
        exact ⟨Below.refl _ _, rfl⟩
      | 2, _, ho, hf, hg, hfr, hdep =>
        simp only [gTA, gCZ, gCS, gSI] at ho
        subst ho
        refine ⟨fun _ => ?_, fun hw => absurd (show true = false from hw) (by decide)⟩
        have ts : ρ (.tmp 15) = .agg #[.int .i64 cd, .int .i64 pl] := hdep 1 15 (by kernel_rfl) (by kernel_rfl)
        simp [go_sem, ts]
        exact ⟨Below.refl _ _, rfl⟩
      | 3, hm, _, _, _, _, _ => exact absurd hm (by decide)
      | 4, _, ho, hf, hg, hfr, hdep =>
        simp only [gTA, gCZ, gCS, gSI] at ho
        subst ho
        refine ⟨fun _ => ?_, fun hw => absurd (show true = false from hw) (by decide)⟩
        have ts : ρ (.tmp 16) = .iface 33 (.agg #[.int .i64 cd, .int .i64 pl]) := hdep 2 16 (by kernel_rfl) (by kernel_rfl)
        simp [go_sem, ts]
        exact ⟨Below.refl _ _, rfl⟩
      | n + 5, _, ho, _, _, _, _ => simp at ho
    · intro d i o ρ w' hm ho h0 hf hg hC hcs hfs hfr hdep
      match i, hm, ho, h0, hf, hg, hfr, hdep with
      | 0, hm, _, _, _, _, _, _ => exact absurd hm (by decide)
      | 1, hm, _, _, _, _, _, _ => exact absurd hm (by decide)
      | 2, hm, _, _, _, _, _, _ => exact absurd hm (by decide)
      | 3, _, ho, h0, hf, hg, hfr, hdep =>
        simp only [gTA, gCZ, gCS, gSI] at ho
        subst ho
        have t0 : ρ (.tmp 14) = .agg #[.string ⟨#[]⟩, .slice none 0 0, .slice none 0 0, .slice none 0 0, .slice none 0 0] := hdep 0 14 (by kernel_rfl) (by kernel_rfl)
        have ts : ρ (.tmp 2) = .pointer (some ⟨w.heap.size, 0, none⟩) := hfr 2 (by kernel_rfl)
        have b8 := hC.2.1
        have z0 : w'.cell? ⟨w.heap.size, 0, none⟩ = some (.string ⟨#[]⟩) := b8.cell rfl
        have z1 : w'.cell? ⟨w.heap.size, 1, none⟩ = some (.slice none 0 0) := b8.cell rfl
        have z2 : w'.cell? ⟨w.heap.size, 2, none⟩ = some (.slice none 0 0) := b8.cell rfl
        have z3 : w'.cell? ⟨w.heap.size, 3, none⟩ = some (.slice none 0 0) := b8.cell rfl
        have z4 : w'.cell? ⟨w.heap.size, 4, none⟩ = some (.slice none 0 0) := b8.cell rfl
        have f0 := b8.frozen 0
        have f1 := b8.frozen 1
        have f2 := b8.frozen 2
        have f3 := b8.frozen 3
        have f4 := b8.frozen 4
        have hB : BlkA 26 w.heap.size (((((w'.setCell ⟨w.heap.size, 0, none⟩ (.string ⟨#[]⟩)).setCell ⟨w.heap.size, 1, none⟩ (.slice none 0 0)).setCell ⟨w.heap.size, 2, none⟩ (.slice none 0 0)).setCell ⟨w.heap.size, 3, none⟩ (.slice none 0 0)).setCell ⟨w.heap.size, 4, none⟩ (.slice none 0 0)) #[.string ⟨#[]⟩, .slice none 0 0, .slice none 0 0, .slice none 0 0, .slice none 0 0] := (((((b8.set 0 (.string ⟨#[]⟩)).set 1 (.slice none 0 0)).set 2 (.slice none 0 0)).set 3 (.slice none 0 0)).set 4 (.slice none 0 0))
        have hbt := ((((But.set w' w.heap.size 0 (.string ⟨#[]⟩)).trans (But.set _ w.heap.size 1 (.slice none 0 0))).trans (But.set _ w.heap.size 2 (.slice none 0 0))).trans (But.set _ w.heap.size 3 (.slice none 0 0))).trans (But.set _ w.heap.size 4 (.slice none 0 0))
        refine ⟨rfl, markUpon_skip (w' := (((((w'.setCell ⟨w.heap.size, 0, none⟩ (.string ⟨#[]⟩)).setCell ⟨w.heap.size, 1, none⟩ (.slice none 0 0)).setCell ⟨w.heap.size, 2, none⟩ (.slice none 0 0)).setCell ⟨w.heap.size, 3, none⟩ (.slice none 0 0)).setCell ⟨w.heap.size, 4, none⟩ (.slice none 0 0))) (by simp [go_sem, ts, t0, z0, z1, z2, z3, z4, f0, f1, f2, f3, f4]) ?_⟩
        refine ⟨⟨hC.1.keep (hbt.block _ hC.1.lt HNE.out), hB, hC.2.2.trans (hbt.below (Nat.le_refl _) hC.2.2.size)⟩, fun h => absurd rfl h, ?_⟩
        intro j t hj hs
        match j, hs with
        | 0, hs => exact hs
        | 1, hs => exact hs
        | 2, hs => exact hs
        | 3, _ => trivial
        | 4, hs => exact hs
        | _ + 5, _ => trivial
      | 4, hm, _, _, _, _, _, _ => exact absurd hm (by decide)
      | n + 5, _, ho, _, _, _, _, _ => simp at ho
    · intro V w9 hC9 hS
      have e4 : V 4 = .iface 33 (.agg #[.int .i64 cd, .int .i64 pl]) := hS 4 (by decide) (by intro h; cases h)
      simp only [puts, put_none, e4]
      simp only [Act.put, List.setIfInBounds_toArray, List.set_cons_zero, List.set_cons_succ]
      clear hS e4
      have N8 : Hid (BlkA 26 w.heap.size w9 #[.string ⟨#[]⟩, .slice none 0 0, .slice none 0 0, .slice none 0 0, .slice none 0 0]) := hC9.2.1
      have B9 : Hid (Below w.heap.size w w9) := hC9.2.2
      clear hC9
      go_wp2
      have t0 : w9.cell? ⟨w.heap.size, 0, none⟩ = some (.string ⟨#[]⟩) := N8.out.cell rfl
      have t1 : w9.cell? ⟨w.heap.size, 1, none⟩ = some (.slice none 0 0) := N8.out.cell rfl
      have t2 : w9.cell? ⟨w.heap.size, 2, none⟩ = some (.slice none 0 0) := N8.out.cell rfl
      have t3 : w9.cell? ⟨w.heap.size, 3, none⟩ = some (.slice none 0 0) := N8.out.cell rfl
      have t4 : w9.cell? ⟨w.heap.size, 4, none⟩ = some (.slice none 0 0) := N8.out.cell rfl
      refine bodyPost_ret (v := .tuple #[.agg #[.string ⟨#[]⟩, .slice none 0 0, .slice none 0 0, .slice none 0 0, .slice none 0 0], .iface 33 (.agg #[.int .i64 cd, .int .i64 pl])]) (by simp [results, Tryz.results9, go_sem, t0, t1, t2, t3, t4]) rfl ?_
      rw [← HRE.out, if_pos HC0.out, if_pos HC0.out]
      exact srcE_no HC0.out B9.out
def bkP : Plc → Plc_k
  | ⟨n, p, q⟩ => ⟨n, p, q⟩
def bkI : Itm → Itm_k
  | ⟨k, n, t, ns, f, g, p⟩ => ⟨k, n, t, ns, bkP f, bkP g, p⟩
def bkL (L : List (Itm × Value)) : List (Itm_k × Value) := L.map fun p => (bkI p.1, p.2)
theorem bk_itP (p : Itm × Value) : itP_k (bkI p.1, p.2) = itP p := by
  obtain ⟨⟨k, n, t, ns, ⟨f1, f2, f3⟩, ⟨g1, g2, g3⟩, q⟩, v⟩ := p
  rfl
theorem bk_nums (x : Itm) : (bkI x).nums = x.nums := by
  obtain ⟨k, n, t, ns, f, g, q⟩ := x
  rfl
theorem bk_fst (L : List (Itm × Value)) : (bkL L).map Prod.fst = (L.map Prod.fst).map bkI := by
  unfold bkL
  rw [List.map_map, List.map_map]
  rfl
theorem bk_its {base : Nat} {w : World} {v : Value} {L : List (Itm × Value)} (h : Its base w v L) : Its_k base w v (bkL L) := by
  refine ⟨?_, fun p hp => ?_, fun p hp => ?_, ?_⟩
  · have e : (bkL L).flatMap itP_k = L.flatMap itP := by
      unfold bkL
      rw [List.flatMap_map]
      exact congrArg (fun f => L.flatMap f) (funext bk_itP)
    rw [e]
    have el : (bkL L).length = L.length := by simp [bkL]
    rw [el]
    exact h.row
  · obtain ⟨q, hq, rfl⟩ := List.mem_map.1 hp
    show Ints_k base w q.2 (bkI q.1).nums
    rw [bk_nums]
    exact h.nums q hq
  · obtain ⟨q, hq, rfl⟩ := List.mem_map.1 hp
    exact h.off q hq
  · unfold bkL
    rw [List.pairwise_map]
    exact h.pair
theorem sum_ge (f : Nat → Nat) : ∀ (n k : Nat), k < n → f k ≤ sumG f n
  | 0, _, h => absurd h (Nat.not_lt_zero _)
  | n + 1, k, h => by
    show f k ≤ sumG f n + f n
    by_cases e : k = n
    · subst e; omega
    · have := sum_ge f n k (by omega); omega
theorem ins_few {g : GG} (h : SoundG g) {k : Nat} (hk : k < g.actors.length) : insN g k ≤ 112 := by
  have h1 := sum_ge (insN g) _ k hk
  have h2 := ports_in h
  have h3 := head_ok h.head
  omega
theorem outs_few {g : GG} (h : SoundG g) {k : Nat} (hk : k < g.actors.length) : outsN g k ≤ 112 := by
  have h1 := sum_ge (outsN g) _ k hk
  have h2 := ports_out h
  have h3 := head_ok h.head
  omega
theorem numsok_small {ns : List Int} (h : NumsOk ns) : (∀ n ∈ ns, Small n) ∧ ns.length ≤ 17592186044416 := by
  refine ⟨fun n hn => small_of ?_, by have := h.2; omega⟩
  obtain ⟨k, hk, rfl⟩ := List.getElem_of_mem hn
  have q := h.1 k
  rw [nth, List.getD_eq_getElem?_getD, List.getElem?_eq_getElem hk] at q
  exact q
theorem small_port {p : Int} (h0 : 0 ≤ p) {n : Nat} (h1 : p < (n : Int)) (hn : n ≤ 112) : Small p := small_of (by omega)
theorem small_zero : Small 0 := small_of (by decide)
theorem fits_bk {k : Int} {n t : List UInt8} {ns : List Int} {f g : Plc} {p : Int} (h1 : Small f.port) (h2 : Small g.port) (h3 : NumsOk ns) : Fits (bkI ⟨k, n, t, ns, f, g, p⟩) := by
  obtain ⟨f1, f2, f3⟩ := f
  obtain ⟨g1, g2, g3⟩ := g
  exact ⟨h1, h2, (numsok_small h3).1, (numsok_small h3).2⟩
theorem draw_fits {g : GG} (hS : SoundG g) (hA : ∀ a ∈ g.actors, NumsOk a.params) (hE : ∀ e ∈ g.edges, NumsOk e.start) : ∀ x ∈ drawS g, Fits (bkI x) := by
  intro x hx
  unfold drawS at hx
  simp only [List.mem_append, List.mem_map] at hx
  have n0 : NumsOk [] := ⟨inR0, by decide⟩
  rcases hx with ⟨a, ha, rfl⟩ | ⟨e, he, rfl⟩ | ⟨p, hp, rfl⟩ | ⟨p, hp, rfl⟩
  · exact fits_bk small_zero small_zero (hA a ha)
  · obtain ⟨k, hk, rfl⟩ := memE he
    have h1 := (edge_ok (hS.edges k hk)).1
    exact fits_bk (small_port h1.fp0 h1.fp1 (outs_few hS (by have := h1.f0; have := h1.f1; omega))) (small_port h1.tp0 h1.tp1 (ins_few hS (by have := h1.t0; have := h1.t1; omega))) (hE _ he)
  · obtain ⟨k, hk, rfl⟩ := memP hp
    obtain ⟨-, -, ⟨h0, h1, h2, h3⟩, -⟩ := in_ok (hS.ins k hk)
    exact fits_bk small_zero (small_port h2 h3 (ins_few hS (by omega))) n0
  · obtain ⟨k, hk, rfl⟩ := memP hp
    obtain ⟨-, -, ⟨h0, h1, h2, h3⟩, -⟩ := out_ok (hS.outs k hk)
    exact fits_bk (small_port h2 h3 (outs_few hS (by omega))) small_zero n0
/-- What source prints of a graph: a text, an error. -/
def srcP (g : GG) : List UInt8 × Int := if (firstF g).code ≠ 0 then ([], (firstF g).code) else printX g.name ((drawS g).map bkI)
def errN (cd : Int) : Value := if cd = 0 then .nilIface else .iface 31 (.int .i64 cd)
theorem printX_err (nm : List UInt8) (xs : List Itm_k) : (printX nm xs).2 ≠ 0 → (printX nm xs).1 = [] := by
  unfold printX
  split
  · split
    · intro _; rfl
    · intro h; exact absurd rfl h
  · intro _; rfl
set_option maxRecDepth 100000 in
set_option maxHeartbeats 16000000 in
theorem srcPrint_any (g : GG) (a1 a2 a3 a4 : Option Addr) (c1 c2 c3 c4 : Nat) (w : World) (h : GrG w a1 a2 a3 a4 g) (hT : Tab w.heap.size w) :
    Calls Tryz.prog 17 #[.agg #[.string (str g.name), .slice a1 g.actors.length c1, .slice a2 g.edges.length c2, .slice a3 g.ins.length c3, .slice a4 g.outs.length c4]] w fun e w' => e = .returned (.tuple #[.string (str (srcP g).1), errN (srcP g).2]) ∧ Below w.heap.size w w' := by
  have ba := (Below.refl w.heap.size w).alloc (Nat.le_refl _) (.cells #[.string (str g.name), .slice a1 g.actors.length c1, .slice a2 g.edges.length c2, .slice a3 g.ins.length c3, .slice a4 g.outs.length c4] 26)
  have xb := blkA_new 26 w #[.string (str g.name), .slice a1 g.actors.length c1, .slice a2 g.edges.length c2, .slice a3 g.ins.length c3, .slice a4 g.outs.length c4]
  obtain ⟨cd, hcd⟩ : ∃ q, (firstF g).code = q := ⟨_, rfl⟩
  obtain ⟨nm, hnm⟩ : ∃ q, dNm g = q := ⟨_, rfl⟩
  obtain ⟨n, hn⟩ : ∃ q, (dIt g).length = q := ⟨_, rfl⟩
  have hnl : n ≤ 160 := by rw [← hn]; exact dIt_len g
  have DR := hiddenG ((draw_any g a1 a2 a3 a4 c1 c2 c3 c4 _ (h.below ba)).mono fun _ _ hh => drawEnd_one hh hn hnm hcd)
  have FT : Hid (∀ x ∈ dIt g, Fits (bkI x)) := by
    intro x hx
    unfold dIt at hx
    by_cases h0 : (firstF g).code = 0
    · rw [if_pos h0] at hx
      exact draw_fits ((sound_iff g).1 h0) (fun a ha => (h.nums.1 a ha).2) (fun e he => h.nums.2 e he) x hx
    · rw [if_neg h0] at hx
      cases hx
  have SP : Hid (cd = 0 → srcP g = printX nm ((dIt g).map bkI)) := fun e => by
    have e0 : (firstF g).code = 0 := hcd.trans e
    unfold srcP
    rw [if_neg (fun x => x e0), ← hnm]
    unfold dNm dIt
    rw [if_pos e0, if_pos e0]
  have SQ : Hid (cd ≠ 0 → srcP g = ([], cd)) := fun e => by
    unfold srcP
    rw [hcd, if_pos e]
  have BA := hiddenG ba
  have HT := hiddenG hT
  have y0 := xb.cell (k := 0) rfl
  have y1 := xb.cell (k := 1) rfl
  have y2 := xb.cell (k := 2) rfl
  have y3 := xb.cell (k := 3) rfl
  have y4 := xb.cell (k := 4) rfl
  simp only [List.getElem_toArray, List.getElem_cons_zero, List.getElem_cons_succ] at y0 y1 y2 y3 y4
  clear ba xb h hT hcd hnm hn
  go_enter Tryz.func17, Tryz.ntmps17
  go_upto_region 1 with fail
  generalize w.alloc (.cells #[.string (str g.name), .slice a1 g.actors.length c1, .slice a2 g.edges.length c2, .slice a3 g.ins.length c3, .slice a4 g.outs.length c4] 26) = W0 at *
  go_upto_region 2 with (go_at_call 38; (with_reducible refine DR.out.mono ?_); rintro e u1 ⟨a, c, M, rfl, hM, hl, hi, b1⟩; have HM := hiddenG hM; have HL := hiddenG hl; have HI := hiddenG hi; have B1 := hiddenG (BA.out.trans (b1.mono BA.out.size)); clear hM hl hi b1 y0 y1 y2 y3 y4)
  clear DR BA
  have bv := (Below.refl u1.heap.size u1).alloc (Nat.le_refl _) (.cells #[.string (str nm), .slice a n c] 52)
  have X2 := hiddenG (blkA_new 52 u1 #[.string (str nm), .slice a n c])
  have B2 := hiddenG (B1.out.trans (bv.mono B1.out.size))
  have I2 := hiddenG (HI.out.below bv)
  clear bv B1 HI
  generalize u1.heap.size = sb at *
  generalize u1.alloc (.cells #[.string (str nm), .slice a n c] 52) = w2 at *
  have y0 : w2.cell? ⟨sb, 0, none⟩ = some (.string (str nm)) := X2.out.cell rfl
  have y1 : w2.cell? ⟨sb, 1, none⟩ = some (.slice a n c) := X2.out.cell rfl
  by_cases hc : cd = 0
  · have ES := SP.out hc
    subst hc
    obtain ⟨tx, pc, hp⟩ : ∃ tx pc, printX nm ((dIt g).map bkI) = (tx, pc) := ⟨_, _, rfl⟩
    have PR : Hid (Calls Tryz.prog 39 #[.agg #[.string (str nm), .slice a n c]] w2 fun e w' => e = .returned (.tuple #[.string (str tx), .int .i64 pc]) ∧ Below w2.heap.size w2 w') := by
      have el : (bkL M).length = n := by rw [← HL.out]; simp [bkL]
      have q := print_any nm a n c (bkL M) w2 el (Its_k.at5 (c := c) (by rw [el]; exact bk_its I2.out)) (by omega) (fun p hp => by
        obtain ⟨q, hq, rfl⟩ := List.mem_map.1 hp
        exact FT.out _ (by rw [← HM.out]; exact List.mem_map_of_mem hq)) (HT.out.on5 B2.out)
      rw [print_items, bk_fst, HM.out, hp] at q
      exact q
    have HS : Hid (srcP g = (tx, pc)) := ES.trans hp
    have HX : Hid (pc ≠ 0 → tx = []) := fun e => by
      have q := printX_err nm ((dIt g).map bkI)
      rw [hp] at q
      exact q e
    clear ES hp SP SQ FT HM HL I2
    by_cases hpc : pc = 0
    · subst hpc
      go_wp2_with (go_at_call 39; (with_reducible refine PR.out.mono ?_); rintro e w3 ⟨rfl, b3⟩; have B3 := hiddenG (B2.out.trans (b3.mono B2.out.size)); clear b3 y0 y1)
      refine bodyPost_ret (v := .tuple #[.string (str tx), .nilIface]) (by simp [results, Tryz.results17, go_sem]) rfl ?_
      exact ⟨by rw [HS.out]; rfl, B3.out⟩
    · have n1 : (pc != 0) = true := by simp [hpc]
      have n2 : (pc == 0) = false := by simp [hpc]
      go_wp2_with (go_at_call 39; (with_reducible refine PR.out.mono ?_); rintro e w3 ⟨rfl, b3⟩; have B3 := hiddenG (B2.out.trans (b3.mono B2.out.size)); clear b3 y0 y1)
      refine bodyPost_ret (v := .tuple #[.string ⟨#[]⟩, .iface 31 (.int .i64 pc)]) (by simp [results, Tryz.results17, go_sem]) rfl ?_
      exact ⟨by rw [HS.out, HX.out hpc]; unfold errN; rw [if_neg hpc]; rfl, B3.out⟩
  · have ES := hiddenG (SQ.out hc)
    have n1 : (cd != 0) = true := by simp [hc]
    have n2 : (cd == 0) = false := by simp [hc]
    clear SP SQ FT
    go_wp2
    refine bodyPost_ret (v := .tuple #[.string ⟨#[]⟩, .iface 31 (.int .i64 cd)]) (by simp [results, Tryz.results17, go_sem]) rfl ?_
    exact ⟨by rw [ES.out]; unfold errN; rw [if_neg hc]; rfl, B2.out⟩
theorem srcG_len (l : List UInt8) : (srcG l).actors.length ≤ 32 ∧ (srcG l).edges.length ≤ 96 ∧ (srcG l).ins.length ≤ 16 ∧ (srcG l).outs.length ≤ 16 := by
  unfold srcG
  split
  · exact ⟨Nat.zero_le _, Nat.zero_le _, Nat.zero_le _, Nat.zero_le _⟩
  · exact bG_len _ _
def w9a : List UInt8 := [103, 114, 97, 112, 104, 32, 103, 32, 123, 32, 105, 110, 32, 120, 32, 45, 62, 32, 97, 46, 48, 59, 32, 111, 117, 116, 32, 97, 46, 48, 32, 45, 62, 32, 121, 59, 32, 97, 99, 116, 111, 114, 32, 97, 32, 61, 32, 117, 112, 32, 50, 32, 59, 32, 125]
def w9b : List UInt8 := [103, 114, 97, 112, 104, 32, 103, 32, 123, 32, 97, 99, 116, 111, 114, 32, 97, 32, 61, 32, 117, 112, 32, 48, 59, 32, 125]
def w9c : List UInt8 := [103, 114, 97, 112, 104, 32, 103, 32, 123, 10, 32, 32, 97, 99, 116, 111, 114, 32, 97, 32, 61, 32, 117, 112, 32, 50, 59, 10, 32, 32, 105, 110, 32, 120, 32, 45, 62, 32, 97, 46, 48, 59, 10, 32, 32, 111, 117, 116, 32, 97, 46, 48, 32, 45, 62, 32, 121, 59, 10, 125, 10]
theorem w9_one : srcB w9a = (0, 0) := by kernel_rfl
theorem w9_two : srcP (srcG w9a) = (w9c, 0) := by kernel_rfl
theorem w9_three : srcB w9b = (61, 10) := by kernel_rfl
set_option maxRecDepth 100000 in
set_option maxHeartbeats 16000000 in
theorem awake9 (w : World) (hE : Env w) (hTb : Tab w.heap.size w) (hT : EnvT w) : Calls Tryz.prog 13 #[] w fun e w' => e = .returned (.bool true) ∧ Below w.heap.size w w' := by
  obtain ⟨l1, l2, l3, l4⟩ := srcG_len w9a
  have PA : Hid (Calls Tryz.prog 9 #[.string ⟨#[103, 114, 97, 112, 104, 32, 103, 32, 123, 32, 105, 110, 32, 120, 32, 45, 62, 32, 97, 46, 48, 59, 32, 111, 117, 116, 32, 97, 46, 48, 32, 45, 62, 32, 121, 59, 32, 97, 99, 116, 111, 114, 32, 97, 32, 61, 32, 117, 112, 32, 50, 32, 59, 32, 125]⟩] w (SrcE w (srcG w9a) 0 0)) := by
    have q := srcParse_any w9a w hE
    rw [w9_one] at q
    exact q
  have PR : Hid (∀ U, Below w.heap.size w U → ∀ a1 a2 a3 a4 c1 c2 c3 c4, GrG U a1 a2 a3 a4 (srcG w9a) → Calls Tryz.prog 17 #[.agg #[.string (str (srcG w9a).name), .slice a1 (srcG w9a).actors.length c1, .slice a2 (srcG w9a).edges.length c2, .slice a3 (srcG w9a).ins.length c3, .slice a4 (srcG w9a).outs.length c4]] U fun e w' => e = .returned (.tuple #[.string ⟨#[103, 114, 97, 112, 104, 32, 103, 32, 123, 10, 32, 32, 97, 99, 116, 111, 114, 32, 97, 32, 61, 32, 117, 112, 32, 50, 59, 10, 32, 32, 105, 110, 32, 120, 32, 45, 62, 32, 97, 46, 48, 59, 10, 32, 32, 111, 117, 116, 32, 97, 46, 48, 32, 45, 62, 32, 121, 59, 10, 125, 10]⟩, .nilIface]) ∧ Below U.heap.size U w') := fun U hU a1 a2 a3 a4 c1 c2 c3 c4 hg => by
    have q := srcPrint_any (srcG w9a) a1 a2 a3 a4 c1 c2 c3 c4 U hg (hTb.on5 hU)
    rw [w9_two] at q
    exact q
  have PB : Hid (∀ U, Below w.heap.size w U → Calls Tryz.prog 9 #[.string ⟨#[103, 114, 97, 112, 104, 32, 103, 32, 123, 32, 97, 99, 116, 111, 114, 32, 97, 32, 61, 32, 117, 112, 32, 48, 59, 32, 125]⟩] U (SrcE U (srcG w9b) 61 10)) := fun U hU => by
    have q := srcParse_any w9b U (hE.below hU)
    rw [w9_three] at q
    exact q
  have FA : Hid (∀ U, Below w.heap.size w U → Calls Tryz.prog 11 #[.iface 33 (.agg #[.int .i64 61, .int .i64 10])] U fun e w' => e = .returned (.tuple #[.agg #[.int .i64 61, .int .i64 10], .bool true]) ∧ Below U.heap.size U w') := fun U hU => fault9_some 61 10 U (hT.below hU)
  have LL := hiddenG (show (srcG w9a).actors.length ≤ 32 ∧ (srcG w9a).edges.length ≤ 96 ∧ (srcG w9a).ins.length ≤ 16 ∧ (srcG w9a).outs.length ≤ 16 from ⟨l1, l2, l3, l4⟩)
  generalize srcG w9a = G at *
  generalize srcG w9b = G2 at *
  unfold SrcE errV at PA PB
  rw [if_pos rfl] at PA
  simp only [show ¬ (61 : Int) = 0 by decide, if_false] at PB
  clear l1 l2 l3 l4 hE hTb hT
  go_enter Tryz.func13, Tryz.ntmps13
  go_upto_region 2 with (go_at_call 9; (with_reducible refine PA.out.mono ?_); rintro e u1 ⟨x1, x2, x3, x4, d1, d2, d3, d4, As, Es, rfl, hO, b1⟩; have O1 := hiddenG hO; have B1 := hiddenG b1; clear hO b1)
  have bv := (Below.refl u1.heap.size u1).alloc (Nat.le_refl _) (.cells #[.string (str G.name), .slice x1 G.actors.length d1, .slice x2 G.edges.length d2, .slice x3 G.ins.length d3, .slice x4 G.outs.length d4] 26)
  have X1 := hiddenG (blkA_new 26 u1 #[.string (str G.name), .slice x1 G.actors.length d1, .slice x2 G.edges.length d2, .slice x3 G.ins.length d3, .slice x4 G.outs.length d4])
  have B2 := hiddenG (B1.out.trans (bv.mono B1.out.size))
  have GR := hiddenG ((O1.out.later bv).gr LL.out.1 LL.out.2.1 LL.out.2.2.1 LL.out.2.2.2)
  clear bv O1 B1 PA LL
  generalize u1.heap.size = gb at *
  generalize u1.alloc (.cells #[.string (str G.name), .slice x1 G.actors.length d1, .slice x2 G.edges.length d2, .slice x3 G.ins.length d3, .slice x4 G.outs.length d4] 26) = w2 at *
  have y0 : w2.cell? ⟨gb, 0, none⟩ = some (.string (str G.name)) := X1.out.cell rfl
  have y1 : w2.cell? ⟨gb, 1, none⟩ = some (.slice x1 G.actors.length d1) := X1.out.cell rfl
  have y2 : w2.cell? ⟨gb, 2, none⟩ = some (.slice x2 G.edges.length d2) := X1.out.cell rfl
  have y3 : w2.cell? ⟨gb, 3, none⟩ = some (.slice x3 G.ins.length d3) := X1.out.cell rfl
  have y4 : w2.cell? ⟨gb, 4, none⟩ = some (.slice x4 G.outs.length d4) := X1.out.cell rfl
  go_upto_region 3 with (go_at_call 17; (with_reducible refine (PR.out w2 B2.out _ _ _ _ _ _ _ _ GR.out).mono ?_); rintro e w3 ⟨rfl, b3⟩; have B3 := hiddenG (B2.out.trans (b3.mono B2.out.size)); clear b3 y0 y1 y2 y3 y4)
  clear PR GR X1 B2
  go_upto_region 4 with (go_at_call 9; (with_reducible refine (PB.out w3 B3.out).mono ?_); rintro e u4 ⟨z1, z2, z3, z4, f1, f2, f3, f4, Bs, Fs, rfl, -, b4⟩; have B4 := hiddenG (B3.out.trans (b4.mono B3.out.size)); clear b4)
  have bv := (Below.refl u4.heap.size u4).alloc (Nat.le_refl _) (.cells #[.string (str G2.name), .slice z1 G2.actors.length f1, .slice z2 G2.edges.length f2, .slice z3 G2.ins.length f3, .slice z4 G2.outs.length f4] 26)
  have B5 := hiddenG (B4.out.trans (bv.mono B4.out.size))
  clear bv B4 B3 PB
  generalize u4.heap.size = hb at *
  generalize u4.alloc (.cells #[.string (str G2.name), .slice z1 G2.actors.length f1, .slice z2 G2.edges.length f2, .slice z3 G2.ins.length f3, .slice z4 G2.outs.length f4] 26) = w5 at *
  go_upto_region 5 with (go_at_call 11; (with_reducible refine (FA.out w5 B5.out).mono ?_); rintro e w6 ⟨rfl, b6⟩; have B6 := hiddenG (B5.out.trans (b6.mono B5.out.size)); clear b6)
  have bv := (Below.refl w6.heap.size w6).alloc (Nat.le_refl _) (.cells #[.int .i64 61, .int .i64 10] 33)
  have X7 := hiddenG (blkA_new 33 w6 #[.int .i64 61, .int .i64 10])
  have B7 := hiddenG (B6.out.trans (bv.mono B6.out.size))
  clear bv B6 B5 FA
  generalize w6.heap.size = fb at *
  generalize w6.alloc (.cells #[.int .i64 61, .int .i64 10] 33) = w7 at *
  have y0 : w7.cell? ⟨fb, 0, none⟩ = some (.int .i64 61) := X7.out.cell rfl
  have y1 : w7.cell? ⟨fb, 1, none⟩ = some (.int .i64 10) := X7.out.cell rfl
  go_wp2
  go_ret
  exact ⟨rfl, B7.out⟩
end Go.Proofs.YtolpelfdhcccnaaGreatDoor
