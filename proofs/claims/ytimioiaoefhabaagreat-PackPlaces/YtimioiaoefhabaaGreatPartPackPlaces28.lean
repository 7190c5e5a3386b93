/- Texts of one chain, laid one behind the other. -/
import Derived.Test.YtimioiaoefhabaaGreatPartPackPlaces27
import Derived.Test.YtimioiaoefhabaaGreatPartPackPlaces26
namespace Go.Proofs.YtimioiaoefhabaaGreat
open Go.ChangeShapes Go.WideShapes Go.ChangeAt Go.RowKit
/-- Who clashes, row kx written up to jx. -/
def rowJ (near : Nat → Nat → Bool) (kx jx i j : Nat) : Bool := if i = kx then (if j < jx then near i j else false) else near i j
theorem nrw_row {rb : Nat → Nat} {Q PB NB m : Nat} {L : List (Int × Int)} {pl : Nat → Bool} {nr : Nat → Nat → Bool} {k : Nat} {W0 w : World} (h : NrW rb Q PB NB m L pl nr (k + 1) W0 w) (hk : k < m) : w.cell? ⟨NB, k, none⟩ = some (.slice (some ⟨rb k, 0, none⟩) m m) := by
  have q := h.hnr.cell hk
  rw [if_pos (Nat.lt_succ_self k)] at q
  exact q
theorem rowJ_step {rb : Nat → Nat} {Q PB NB m : Nat} {L : List (Int × Int)} {pl : Nat → Bool} {near : Nat → Nat → Bool} {k j : Nat} {W0 w : World} {v : Bool} (h : NrW rb Q PB NB m L pl (rowJ near k j) (k + 1) W0 w) (hv : near k j = v) : NrW rb Q PB NB m L pl (rowJ near k (j + 1)) (k + 1) W0 (w.setCell ⟨rb k, j, none⟩ (.bool v)) :=
  (h.cell (Nat.lt_succ_self k) j v).like rfl (fun _ _ => rfl) fun a _ b _ => by
    unfold rowJ
    by_cases e : a = k
    · subst e
      simp only [if_pos]
      by_cases e2 : b = j
      · subst e2
        rw [if_pos rfl, if_pos (Nat.lt_succ_self _)]
        exact hv.symm
      · rw [if_neg e2]
        by_cases e3 : b < j
        · rw [if_pos e3, if_pos (by omega)]
        · rw [if_neg e3, if_neg (by omega)]
    · rw [if_neg e, if_neg e, if_neg e]
/-- The search's answer as the document keeps it. -/
def nxI : Option Nat → Int
  | none => -1
  | some x => (x : Int)
set_option maxRecDepth 100000 in
set_option maxHeartbeats 16000000 in
theorem rplace19_any (n : NN) (a : Option Addr) (c : Nat) (W : World) (h : AtN W a n.arcs) (hroom : n.arcs.length ≤ 4611686018427387904) (al : Option Addr) (cl : Nat) (zs : List Int) (hz : At W al zs) (hzl : zs.length ≤ 4611686018427387904) :
    Calls Tryz.prog 15 #[.agg #[.int .i64 n.nodes, .slice a n.arcs.length c], .slice al zs.length cl] W (PlaE n zs W) := by
  obtain ⟨PE, hPE⟩ : ∃ Q, PlaE n zs W = Q := ⟨_, rfl⟩
  rw [hPE]
  have HPE := hiddenN hPE
  have y1 : Hid (Below W.heap.size W (W.alloc (.cells #[.int .i64 n.nodes, .slice a n.arcs.length c] 24))) := (Below.refl _ _).alloc (Nat.le_refl _) _
  have hs1 : (W.alloc (.cells #[.int .i64 n.nodes, .slice a n.arcs.length c] 24)).heap.size = W.heap.size + 1 := World.size_alloc ..
  have y2 : Hid (Below (W.alloc (.cells #[.int .i64 n.nodes, .slice a n.arcs.length c] 24)).heap.size (W.alloc (.cells #[.int .i64 n.nodes, .slice a n.arcs.length c] 24)) ((W.alloc (.cells #[.int .i64 n.nodes, .slice a n.arcs.length c] 24)).alloc (.cells #[.slice none 0 0, .int .i64 0] 41))) := (Below.refl _ _).alloc (Nat.le_refl _) _
  have G0 := hiddenN ((blkA_new 24 W #[.int .i64 n.nodes, .slice a n.arcs.length c]).below y2.out)
  have D0 := hiddenN (blkA_new 41 (W.alloc (.cells #[.int .i64 n.nodes, .slice a n.arcs.length c] 24)) #[.slice none 0 0, .int .i64 0])
  have B0 := hiddenN (y1.out.trans (y2.out.mono (by rw [hs1]; omega)))
  rw [hs1] at D0
  have CLE := hiddenN (fun U (hb : Below W.heap.size W U) => rclashes_anyX n a c U (h.below hb) hroom al cl zs (hz.below hb) hzl)
  have HOE := hiddenN (fun U (hb : Below W.heap.size W U) => rhome_any n a c U (h.below hb) hroom al cl zs (hz.below hb) hzl)
  have MOE := hiddenN (fun U (hb : Below W.heap.size W U) => rmost_any n a c U (h.below hb) hroom al cl zs (hz.below hb) hzl)
  clear hPE h hz y1 y2 hs1
  have z0 := G0.out.cell (k := 0) rfl
  have z1 := G0.out.cell (k := 1) rfl
  simp only [List.getElem_toArray, List.getElem_cons_zero, List.getElem_cons_succ] at z0 z1
  have HENDc : Hid (¬ dmC n zs = 0 → ∀ (wz : World), Below W.heap.size W wz → PE (.returned (.tuple #[.agg #[.slice none 0 0, .int .i64 0], .int .i64 (dmC n zs)])) wz) := fun h0 wz q2 => by
    rw [← HPE.out]
    have e : plaC n zs = dmC n zs := if_neg h0
    refine ⟨none, 0, ?_, ?_, q2⟩
    · unfold plaL plaT
      rw [if_neg (by rw [e]; exact h0), if_neg (by rw [e]; exact h0), e]; rfl
    · unfold plaL
      rw [if_neg (by rw [e]; exact h0)]; exact CapGn.nil _ _
  by_cases hc : codeV n zs = 0
  · cases hh : homeB n zs with
    | true =>
      clear HENDc
      have DM0 : Hid (dmC n zs = 0) := by show _ = _; unfold dmC; rw [if_pos hc, if_pos hh]
      have hS0 := check_sound (code_zero hc).1
      have hmost := hS0.most
      have PF0 : Hid (∀ i, 0 ≤ nth (mostM n zs) i) := fun i => (peaks_few hc i).1
      have PF1 : Hid (∀ i, nth (mostM n zs) i ≤ 1000000) := fun i => (peaks_few hc i).2
      have HNR : Hid (∀ i, i < (mostM n zs).length → ∀ j, j < (mostM n zs).length → i ≠ j → prdX (cloL n zs) i j = cloV (rowsV n (startT n) zs) i j) := fun i hi j hj hne => by
        rw [mostM_len] at hi hj
        unfold cloL
        rw [if_pos hc]
        exact prd_clo (cloV_swap _) hi hj hne
      have HPL6 : Hid ((cloL n zs).length ≤ 1000000) := cloL_few hc (cloL n zs) [] (List.append_nil _)
      have HML := hiddenN (mostM_len n zs)
      have CL1 : Hid (Calls Tryz.prog 9 #[.agg #[.int .i64 n.nodes, .slice a n.arcs.length c], .slice al zs.length cl] ((W.alloc (.cells #[.int .i64 n.nodes, .slice a n.arcs.length c] 24)).alloc (.cells #[.slice none 0 0, .int .i64 0] 41)) fun e w' => ∃ dp cp, e = .returned (.tuple #[.slice dp (cloL n zs).length cp, .int .i64 0]) ∧ AtPp w' dp (cloL n zs) ∧ Below ((W.alloc (.cells #[.int .i64 n.nodes, .slice a n.arcs.length c] 24)).alloc (.cells #[.slice none 0 0, .int .i64 0] 41)).heap.size ((W.alloc (.cells #[.int .i64 n.nodes, .slice a n.arcs.length c] 24)).alloc (.cells #[.slice none 0 0, .int .i64 0] 41)) w') := (CLE.out _ B0.out).mono fun e w' ⟨dp, cp, e1, q1, q2⟩ => ⟨dp, cp, by rw [hc] at e1; exact e1, q1.at, q2⟩
      have HO1 : Hid (∀ U, Below W.heap.size W U → Calls Tryz.prog 34 #[.agg #[.int .i64 n.nodes, .slice a n.arcs.length c], .slice al zs.length cl] U fun e w' => e = .returned (.tuple #[.bool true, .int .i64 0]) ∧ Below U.heap.size U w') := fun U hb => by
        have q := HOE.out U hb
        rw [hc, hh] at q
        exact q
      have MO1 : Hid (∀ U, Below W.heap.size W U → Calls Tryz.prog 35 #[.agg #[.int .i64 n.nodes, .slice a n.arcs.length c], .slice al zs.length cl] U fun e w' => ∃ am cm, e = .returned (.tuple #[.slice am n.arcs.length cm, .int .i64 0]) ∧ At w' am (mostM n zs) ∧ Below U.heap.size U w') := fun U hb => (MOE.out U hb).mono fun e w' hh => by
        rcases hh with ⟨-, B, am, cm, e1, -, -, q3, q⟩ | ⟨k1, -⟩
        · exact ⟨am, cm, e1, q3.at, q⟩
        · exact absurd hc k1
      have HEY : Hid (¬ 1024 < celP (plnV (mostM n zs) (rowsV n (startT n) zs)) → ∀ (wz : World) d c', CapGn W.heap.size wz d c' (plnV (mostM n zs) (rowsV n (startT n) zs)) → Below W.heap.size W wz → PE (.returned (.tuple #[.agg #[.slice d n.arcs.length c', .int .i64 (celP (plnV (mostM n zs) (rowsV n (startT n) zs)))], .int .i64 0])) wz) := fun hle wz d c' q1 q2 => by
        rw [← HPE.out]
        have e : plaC n zs = 0 := by unfold plaC; rw [if_pos DM0.out, if_neg hle]
        refine ⟨d, c', ?_, ?_, q2⟩
        · unfold plaL plaT
          rw [if_pos e, if_pos e, e, plnV_len, mostM_len]
        · unfold plaL
          rw [if_pos e]; exact q1
      have HEN : Hid (1024 < celP (plnV (mostM n zs) (rowsV n (startT n) zs)) → ∀ (wz : World), Below W.heap.size W wz → PE (.returned (.tuple #[.agg #[.slice none 0 0, .int .i64 0], .int .i64 5])) wz) := fun hgt wz q2 => by
        rw [← HPE.out]
        have e : plaC n zs = 5 := by unfold plaC; rw [if_pos DM0.out, if_pos hgt]
        refine ⟨none, 0, ?_, ?_, q2⟩
        · unfold plaL plaT
          rw [if_neg (by rw [e]; decide), if_neg (by rw [e]; decide), e]; rfl
        · unfold plaL
          rw [if_neg (by rw [e]; decide)]; exact CapGn.nil _ _
      have HEQ : Hid (plnP (nth (mostM n zs)) (docP (nth (mostM n zs)) (prdX (cloL n zs)) (mostM n zs).length (mostM n zs).length) (mostM n zs).length = plnV (mostM n zs) (rowsV n (startT n) zs)) := doc_end PF0.out rfl HNR.out
      have HFEW : Hid (∀ x ∈ plnV (mostM n zs) (rowsV n (startT n) zs), 0 ≤ x.1 ∧ x.1 ≤ 1000000000 ∧ 0 ≤ x.2 ∧ x.2 ≤ 1000000000) := fun x hx => by
        rw [← HEQ.out] at hx
        obtain ⟨i, hi, rfl⟩ := List.getElem_of_mem hx
        have hi2 : i < (mostM n zs).length := by rw [plnP_len] at hi; exact hi
        have q := doc_few PF0.out PF1.out (prdX (cloL n zs)) (Nat.le_refl (mostM n zs).length) (by rw [HML.out]; exact hmost) i hi2
        rw [nthX_at (List.getElem?_eq_getElem hi)] at q
        omega
      have HPVL := hiddenN (plnV_len (mostM n zs) (rowsV n (startT n) zs))
      clear CLE HOE MOE HPE hc hh hS0 DM0 HNR
      generalize plnV (mostM n zs) (rowsV n (startT n) zs) = PV at *
      generalize cloL n zs = PL at *
      generalize mostM n zs = pk at *
      obtain ⟨m, hm⟩ : ∃ m, n.arcs.length = m := ⟨_, rfl⟩
      obtain ⟨np, hnp⟩ : ∃ np, PL.length = np := ⟨_, rfl⟩
      have HNP := hiddenN hnp
      rw [hm] at HML HEY hmost CL1 HO1 MO1 z0 z1 G0 D0 B0 ⊢
      rw [hnp] at HPL6 CL1
      rw [HML.out] at HEQ HPVL
      clear hm hnp
      obtain ⟨i0, hi, hz0, hz1, hz2⟩ := info_parts Tryz.infoGn
      obtain ⟨ib, hib, hb0, hb1, hb2⟩ := info_parts Tryz.infoBo
      obtain ⟨is, his, hs0, hs1, hs2⟩ := info_parts Tryz.infoBs
      go_enter Tryz.func15, Tryz.ntmps15
      go_upto_region 1 with fail
      generalize ((W.alloc (.cells #[.int .i64 n.nodes, .slice a m c] 24)).alloc (.cells #[.slice none 0 0, .int .i64 0] 41)) = W1 at *
      obtain ⟨nb, hnb⟩ : ∃ q, W.heap.size = q := ⟨_, rfl⟩
      rw [hnb] at G0 D0 z0 z1 ⊢
      have hnb1 : nb + 1 < W1.heap.size := D0.out.lt
      go_upto_region 2 with (go_at_call 9; (with_reducible refine CL1.out.mono ?_); rintro e w2 ⟨dp, cp, rfl, q1, q2⟩; have P2 := hiddenN q1; have B2 := hiddenN (B0.out.trans (q2.mono B0.out.size)); have G2 := hiddenN (G0.out.below q2); have D2 := hiddenN (D0.out.below q2); have h12 := q2.size; clear q1 q2)
      clear z0 z1 G0 D0 CL1
      have z0 := G2.out.cell (k := 0) rfl
      have z1 := G2.out.cell (k := 1) rfl
      simp only [List.getElem_toArray, List.getElem_cons_zero, List.getElem_cons_succ] at z0 z1
      go_upto_region 5 with (go_at_call 34; (with_reducible refine (HO1.out _ B2.out).mono ?_); rintro e w3 ⟨rfl, q2⟩; have P3 := hiddenN (P2.out.below q2); have B3 := hiddenN (B2.out.trans (q2.mono B2.out.size)); have G3 := hiddenN (G2.out.below q2); have D3 := hiddenN (D2.out.below q2); have h23 := q2.size; clear q2)
      clear z0 z1 G2 D2 P2 HO1
      have z0 := G3.out.cell (k := 0) rfl
      have z1 := G3.out.cell (k := 1) rfl
      simp only [List.getElem_toArray, List.getElem_cons_zero, List.getElem_cons_succ] at z0 z1
      go_upto_region 8 with (go_at_call 35; (with_reducible refine (MO1.out _ B3.out).mono ?_); rintro e W4 ⟨am, cm, rfl, q1, q2⟩; have M4 := hiddenN q1; have P4 := hiddenN (P3.out.below q2); have B4 := hiddenN (B3.out.trans (q2.mono B3.out.size)); have D4 := hiddenN (D3.out.below q2); have h34 := q2.size; clear q1 q2)
      clear z0 z1 G3 D3 P3 MO1
      obtain ⟨Q, hQ⟩ : ∃ q, W4.heap.size = q := ⟨_, rfl⟩
      have hnbQ : nb + 1 < Q := by omega
      go_upto_region 9 with (at_make; refine wpList_make_full _ rfl _ _ 39 rfl Q 47 i0 (.agg #[.int .i64 0, .int .i64 0]) 2 Tryz.underlying39 hi hz0 hz1 _ _ _ _ m rfl rfl rfl rfl (by rw [hz2]; omega) (by unfold maxLen; omega) (Nat.le_of_eq hQ.symm) ?_; intro W5 hown0 hgrow0; have C5 := hiddenN (made_zeroGn hown0); have B5 := hiddenN ((Below.refl Q W4).grown hgrow0 (Nat.le_of_eq hQ.symm) (fun k h => by cases h)); clear hown0 hgrow0)
      (try rw [hQ] at C5)
      (try rw [hQ])
      have y6 : Hid (Below W5.heap.size W5 (W5.alloc (.cells (madeCells #[.bool false] m) 4))) := (Below.refl _ _).alloc (Nat.le_refl _) _
      have R6 := hiddenN (World.rowIs_made W5 (.bool false) m 4)
      have s6 : Hid ((W5.alloc (.cells (madeCells #[.bool false] m) 4)).heap.size = W5.heap.size + 1) := World.size_alloc ..
      have C6 := hiddenN (C5.out.later y6.out)
      have B6 := hiddenN (B5.out.trans (y6.out.mono (Nat.le_of_lt (C5.out.lt _ rfl).2)))
      have hQP : Q < W5.heap.size := (C5.out.lt _ rfl).2
      go_upto_region 10 with (at_make; refine wpList_make_row _ rfl _ _ 75 rfl 4 ib (.bool false) Tryz.underlying75 hib hb0 hb1 rfl _ _ m rfl rfl (by rw [hb2]; omega) (by omega) ?_)
      generalize W5.alloc (.cells (madeCells #[.bool false] m) 4) = W6 at *
      obtain ⟨PB, hPB⟩ : ∃ q, W5.heap.size = q := ⟨_, rfl⟩
      (try rw [hPB] at R6)
      rw [hPB] at s6 hQP
      (try rw [hPB])
      clear C5 B5 y6 hPB
      have y7 : Hid (Below W6.heap.size W6 (W6.alloc (.cells (madeCells #[.slice none 0 0] m) 75))) := (Below.refl _ _).alloc (Nat.le_refl _) _
      have R7 := hiddenN (World.rowIs_made W6 (.slice none 0 0) m 75)
      have R67 := hiddenN (R6.out.alloc (.cells (madeCells #[.slice none 0 0] m) 75))
      have C7 := hiddenN (C6.out.later y7.out)
      have B7 := hiddenN (B6.out.trans (y7.out.mono (Nat.le_of_lt (C6.out.lt _ rfl).2)))
      go_upto_region 11 with (at_make; refine wpList_make_row _ rfl _ _ 76 rfl 75 is (.slice none 0 0) Tryz.underlying76 his hs0 hs1 rfl _ _ m rfl rfl (by rw [hs2]; omega) (by omega) ?_)
      generalize W6.alloc (.cells (madeCells #[.slice none 0 0] m) 75) = W7 at *
      obtain ⟨NB, hNB⟩ : ∃ q, W6.heap.size = q := ⟨_, rfl⟩
      (try rw [hNB] at R7)
      rw [hNB] at s6
      (try rw [hNB])
      have hPN : PB < NB := by have := s6.out; omega
      clear C6 B6 R6 y7 hNB hi hz0 hz1 hz2 his hs0 hs1 hs2
      obtain ⟨S, hSd⟩ : ∃ S, nth pk = S := ⟨_, rfl⟩
      obtain ⟨near, hnear⟩ : ∃ near, prdX PL = near := ⟨_, rfl⟩
      rw [hSd, hnear] at HEQ
      have HSD := hiddenN hSd
      have HNE := hiddenN hnear
      have N7 : Hid (NrW (fun _ => 0) Q PB NB m (iniL S m 0) (fun _ => false) near 0 W4 W7) := ⟨by rw [iniL_zero]; exact C7.out, iniL_len _ _ _, R67.out, R7.out.congr fun i _ => by rw [if_neg (Nat.not_lt_zero _)], (fun i h => absurd h (Nat.not_lt_zero _)), hQP, hPN, (fun i h => absurd h (Nat.not_lt_zero _)), (fun i h => absurd h (Nat.not_lt_zero _)), B7.out⟩
      have MC : Hid (∀ wz, Below Q W4 wz → ∀ kx, kx < m → ∃ pb po, am = some ⟨pb, po, none⟩ ∧ ∀ j, j < m → wz.cell? ⟨pb, po + j, none⟩ = some (.int .i64 (S j))) := fun wz hb kx hk => by
        rcases M4.out.below (by rw [hQ]; exact hb) with e | ⟨pb, po, e, hcc⟩
        · have q := HML.out; rw [e] at q; simp at q; omega
        · exact ⟨pb, po, e, fun j hj => by rw [← HSD.out]; exact hcc j (by rw [HML.out]; exact hj)⟩
      have RPA : Hid (∀ wz, Below Q W4 wz → ∀ kx jx : Nat, Calls Tryz.prog 36 #[.slice dp np cp, .int .i64 kx, .int .i64 jx] wz fun e w' => e = .returned (.bool (near kx jx)) ∧ w' = wz) := fun wz hb kx jx => by
        have q := rpaired_anyX dp cp PL np kx jx wz (P4.out.below (by rw [hQ]; exact hb)) HNP.out HPL6.out
        rw [← HNE.out]
        exact q
      rw [HSD.out] at PF0 PF1
      clear C7 R67 R7 B7 M4 P4 HNP hSd hnear
      clear HSD HNE
      go_wp2
      go_loopg [15] m (fun gk u wr => ∃ (kx : Nat) (rb : Nat → Nat), kx ≤ m ∧ gk = m - kx ∧ u = .int .i64 (kx : Int) ∧ NrW rb Q PB NB m (iniL S m kx) (fun _ => false) near kx W4 wr)
      case atStart => exact ⟨0, _, Nat.zero_le _, rfl, rfl, N7.out⟩
      case round =>
        clear N7
        obtain ⟨kx, rb0, hk, rfl, rfl, hN⟩ := hrel
        have HN := hiddenN hN
        clear hN
        by_cases hlt : kx < m
        · have hki : (kx : Int) < (m : Int) := by omega
          obtain ⟨pb, po, rfl, hcc⟩ := MC.out _ HN.out.bel kx hlt
          have p0 := hcc kx hlt
          obtain ⟨sk, hsk⟩ : ∃ q, S kx = q := ⟨_, rfl⟩
          rw [hsk] at p0
          obtain ⟨k0, k1, k2, k3⟩ := capGn_cells HN.out.reg (i := kx) (by rw [HN.out.len]; exact hlt)
          have N1 := hiddenN (HN.out.size hlt sk)
          have E1 : Hid ((iniL S m kx).set kx ((nthX (iniL S m kx) kx).1, sk) = iniL S m (kx + 1)) := by
            show _ = _
            rw [nthX_at (iniL_at hlt), ← hsk]
            exact iniL_set hlt
          rw [E1.out] at N1
          clear hcc
          go_upto_region 15 with fail
          generalize wr.setCell ⟨Q, kx * 2 + 1, none⟩ (.int .i64 sk) = wa at *
          clear k0 k1 k2 k3 p0 hsk E1 HN
          have N2 := hiddenN (N1.out.made hlt)
          have n0 := (N1.out.hnr.alloc (.cells (madeCells #[.bool false] m) 4)).cell hlt
          have n1 := (N1.out.hnr.alloc (.cells (madeCells #[.bool false] m) 4)).frozen kx
          rw [if_neg (Nat.lt_irrefl _)] at n0
          go_upto_region 16 with (at_make; refine wpList_make_row _ rfl _ _ 75 rfl 4 ib (.bool false) Tryz.underlying75 hib hb0 hb1 rfl _ _ m rfl rfl (by rw [hb2]; omega) (by omega) ?_)
          generalize (wa.alloc (.cells (madeCells #[.bool false] m) 4)).setCell ⟨NB, kx, none⟩ (.slice (some ⟨wa.heap.size, 0, none⟩) m m) = wb at *
          obtain ⟨rb, hrb⟩ : ∃ rb : Nat → Nat, (fun i => if i = kx then wa.heap.size else rb0 i) = rb := ⟨_, rfl⟩
          rw [hrb] at N2
          have N3 : Hid (NrW rb Q PB NB m (iniL S m (kx + 1)) (fun _ => false) (rowJ near kx 0) (kx + 1) W4 wb) := N2.out.like rfl (fun _ _ => rfl) fun i _ j _ => by
            unfold rowJ
            by_cases e : i = kx
            · rw [if_pos e, if_pos e, if_neg (Nat.not_lt_zero _)]
            · rw [if_neg e, if_neg e]
          clear N1 N2 n0 n1 hrb
          go_wp2
          go_loopg [16] m (fun gk u wz => ∃ jx : Nat, jx ≤ m ∧ gk = m - jx ∧ u = .int .i64 (jx : Int) ∧ NrW rb Q PB NB m (iniL S m (kx + 1)) (fun _ => false) (rowJ near kx jx) (kx + 1) W4 wz)
          case atStart => exact ⟨0, Nat.zero_le _, rfl, rfl, N3.out⟩
          case round =>
            clear N3
            obtain ⟨jx, hj, rfl, rfl, hN⟩ := hrel
            have HS := hiddenN hN
            clear hN
            by_cases hjlt : jx < m
            · have hji : (jx : Int) < (m : Int) := by omega
              have RP : Hid (∀ wz, Below Q W4 wz → Calls Tryz.prog 36 #[.slice dp np cp, .int .i64 kx, .int .i64 jx] wz fun e w' => e = .returned (.bool (near kx jx)) ∧ w' = wz) := fun wz hb => RPA.out wz hb kx jx
              obtain ⟨nv, hnv⟩ : ∃ q, near kx jx = q := ⟨_, rfl⟩
              have HNV := hiddenN hnv
              rw [hnv] at RP
              clear hnv
              go_upto_region 19 with fail
              refine wp_region_gen [10] (fun d i u z => match i with
                  | 0 => z = .slice (some ⟨NB, 0, none⟩) m m
                  | 1 => z = .int .i64 (kx : Int)
                  | 2 => z = .pointer (some ⟨NB, kx, none⟩)
                  | 3 => z = .slice (some ⟨rb kx, 0, none⟩) m m
                  | 4 => z = .int .i64 (jx : Int)
                  | 5 => z = .slice dp np cp
                  | 6 => z = .int .i64 (kx : Int)
                  | 7 => z = .int .i64 (jx : Int)
                  | 8 => z = .bool nv
                  | 9 => z = .pointer (some ⟨rb kx, jx, none⟩)
                  | 10 => True
                  | _ => True) (fun d u => (d 10 = false → NrW rb Q PB NB m (iniL S m (kx + 1)) (fun _ => false) (rowJ near kx jx) (kx + 1) W4 u) ∧ (d 10 = true → NrW rb Q PB NB m (iniL S m (kx + 1)) (fun _ => false) (rowJ near kx (jx + 1)) (kx + 1) W4 u)) (by kernel_rfl) (by kernel_rfl) (by kernel_rfl) ?_ ?_ ?_ ?_ ?_ ?_ (by kernel_rfl)
              · intro d i w v w' h hb
                match i, h with
                | 0, h => exact h
                | 1, h => exact h
                | 2, h => exact h
                | 3, h => exact h
                | 4, h => exact h
                | 5, h => exact h
                | 6, h => exact h
                | 7, h => exact h
                | 8, h => exact h
                | 9, h => exact h
                | 10, h => exact h
                | _ + 11, _ => trivial
              · intro d u u' h hb
                exact ⟨fun e => (h.1 e).below hb, fun e => (h.2 e).below hb⟩
              · exact ⟨fun _ => HS.out, fun e => absurd e (by decide)⟩
              · intro d i o ρ w' hm ho hf hg hC hcs hfs hfr hdep
                match i, hm, ho, hf, hg, hfr, hdep with
                | 0, _, ho, hf, hg, hfr, hdep =>
                  simp only [gTA, gCZ, gSI] at ho
                  subst ho
                  refine ⟨fun _ => ?_, fun hw => absurd (show true = false from hw) (by decide)⟩
                  have ts : ρ (.tmp 14) = .slice (some ⟨NB, 0, none⟩) m m := hfr 14 (by kernel_rfl)
                  simp [go_sem, ts]
                  exact ⟨Below.refl _ _, rfl⟩
                | 1, _, ho, hf, hg, hfr, hdep =>
                  simp only [gTA, gCZ, gCS, gSI] at ho
                  subst ho
                  refine ⟨fun _ => ?_, fun hw => absurd (show true = false from hw) (by decide)⟩
                  have ts : ρ (.tmp 15) = .int .i64 (kx : Int) := hfr 15 (by kernel_rfl)
                  simp [go_sem, ts]
                  exact ⟨Below.refl _ _, rfl⟩
                | 2, _, ho, hf, hg, hfr, hdep =>
                  simp only [gTA, gCZ, gCS, gSI] at ho
                  subst ho
                  refine ⟨fun _ => ?_, fun hw => absurd (show true = false from hw) (by decide)⟩
                  have d0 : ρ (.tmp 79) = .slice (some ⟨NB, 0, none⟩) m m := hdep 0 79 (by kernel_rfl) (by kernel_rfl)
                  have d1 : ρ (.tmp 80) = .int .i64 (kx : Int) := hdep 1 80 (by kernel_rfl) (by kernel_rfl)
                  simp [go_sem, d0, d1, hki]
                  exact ⟨Below.refl _ _, rfl⟩
                | 3, _, ho, hf, hg, hfr, hdep =>
                  simp only [gTA, gCZ, gCS, gSI] at ho
                  subst ho
                  refine ⟨fun _ => ?_, fun hw => absurd (show true = false from hw) (by decide)⟩
                  have hx := hC.1 (hf 10 (by decide) (by kernel_rfl))
                  have kc := nrw_row hx hlt
                  have d0 : ρ (.tmp 81) = .pointer (some ⟨NB, kx, none⟩) := hdep 2 81 (by kernel_rfl) (by kernel_rfl)
                  simp [go_sem, d0, kc]
                  exact ⟨Below.refl _ _, rfl⟩
                | 4, _, ho, hf, hg, hfr, hdep =>
                  simp only [gTA, gCZ, gCS, gSI] at ho
                  subst ho
                  refine ⟨fun _ => ?_, fun hw => absurd (show true = false from hw) (by decide)⟩
                  have ts : ρ (.tmp 16) = .int .i64 (jx : Int) := hfr 16 (by kernel_rfl)
                  simp [go_sem, ts]
                  exact ⟨Below.refl _ _, rfl⟩
                | 5, _, ho, hf, hg, hfr, hdep =>
                  simp only [gTA, gCZ, gCS, gSI] at ho
                  subst ho
                  refine ⟨fun _ => ?_, fun hw => absurd (show true = false from hw) (by decide)⟩
                  have ts : ρ (.tmp 6) = .slice dp np cp := hfr 6 (by kernel_rfl)
                  simp [go_sem, ts]
                  exact ⟨Below.refl _ _, rfl⟩
                | 6, _, ho, hf, hg, hfr, hdep =>
                  simp only [gTA, gCZ, gCS, gSI] at ho
                  subst ho
                  refine ⟨fun _ => ?_, fun hw => absurd (show true = false from hw) (by decide)⟩
                  have ts : ρ (.tmp 15) = .int .i64 (kx : Int) := hfr 15 (by kernel_rfl)
                  simp [go_sem, ts]
                  exact ⟨Below.refl _ _, rfl⟩
                | 7, _, ho, hf, hg, hfr, hdep =>
                  simp only [gTA, gCZ, gCS, gSI] at ho
                  subst ho
                  refine ⟨fun _ => ?_, fun hw => absurd (show true = false from hw) (by decide)⟩
                  have ts : ρ (.tmp 16) = .int .i64 (jx : Int) := hfr 16 (by kernel_rfl)
                  simp [go_sem, ts]
                  exact ⟨Below.refl _ _, rfl⟩
                | 8, _, ho, hf, hg, hfr, hdep =>
                  simp only [gTA, gCZ, gCS, gSI] at ho
                  subst ho
                  refine ⟨fun _ => ?_, fun hw => absurd (show true = false from hw) (by decide)⟩
                  have t0 : ρ (.tmp 84) = .slice dp np cp := hdep 5 84 (by kernel_rfl) (by kernel_rfl)
                  have t1 : ρ (.tmp 85) = .int .i64 (kx : Int) := hdep 6 85 (by kernel_rfl) (by kernel_rfl)
                  have t2 : ρ (.tmp 86) = .int .i64 (jx : Int) := hdep 7 86 (by kernel_rfl) (by kernel_rfl)
                  have hx := hC.1 (hf 10 (by decide) (by kernel_rfl))
                  simp [go_sem, t0, t1, t2, hfs]
                  refine ⟨rfl, (RP.out _ hx.bel).mono ?_⟩
                  rintro e u9 ⟨rfl, rfl⟩
                  exact ⟨_, rfl, Below.refl _ _, rfl⟩
                | 9, _, ho, hf, hg, hfr, hdep =>
                  simp only [gTA, gCZ, gCS, gSI] at ho
                  subst ho
                  refine ⟨fun _ => ?_, fun hw => absurd (show true = false from hw) (by decide)⟩
                  have d0 : ρ (.tmp 82) = .slice (some ⟨rb kx, 0, none⟩) m m := hdep 3 82 (by kernel_rfl) (by kernel_rfl)
                  have d1 : ρ (.tmp 83) = .int .i64 (jx : Int) := hdep 4 83 (by kernel_rfl) (by kernel_rfl)
                  simp [go_sem, d0, d1, hji]
                  exact ⟨Below.refl _ _, rfl⟩
                | 10, hm, _, _, _, _, _ => exact absurd hm (by decide)
                | n + 11, _, ho, _, _, _, _ => simp at ho
              · intro d i o ρ w' hm ho h0 hf hg hC hcs hfs hfr hdep
                match i, hm, ho, h0, hf, hg, hfr, hdep with
                | 0, hm, _, _, _, _, _, _ => exact absurd hm (by decide)
                | 1, hm, _, _, _, _, _, _ => exact absurd hm (by decide)
                | 2, hm, _, _, _, _, _, _ => exact absurd hm (by decide)
                | 3, hm, _, _, _, _, _, _ => exact absurd hm (by decide)
                | 4, hm, _, _, _, _, _, _ => exact absurd hm (by decide)
                | 5, hm, _, _, _, _, _, _ => exact absurd hm (by decide)
                | 6, hm, _, _, _, _, _, _ => exact absurd hm (by decide)
                | 7, hm, _, _, _, _, _, _ => exact absurd hm (by decide)
                | 8, hm, _, _, _, _, _, _ => exact absurd hm (by decide)
                | 9, hm, _, _, _, _, _, _ => exact absurd hm (by decide)
                | 10, _, ho, h0, hf, hg, hfr, hdep =>
                  simp only [gTA, gCZ, gCS, gSI] at ho
                  subst ho
                  have t0 : ρ (.tmp 88) = .pointer (some ⟨rb kx, jx, none⟩) := hdep 9 88 (by kernel_rfl) (by kernel_rfl)
                  have t1 : ρ (.tmp 87) = .bool nv := hdep 8 87 (by kernel_rfl) (by kernel_rfl)
                  have hx := hC.1 h0
                  have hr := hx.row kx (Nat.lt_succ_self kx)
                  refine ⟨rfl, mark_store1 w' (.tmp 88) (.tmp 87) rfl ⟨rb kx, jx, none⟩ nv t0 t1 (hr.cell hjlt) (hr.frozen jx) ?_⟩
                  refine ⟨⟨fun e => absurd e (by simp [doneAt]), fun _ => ?_⟩, fun h => absurd rfl h, ?_⟩
                  · exact rowJ_step hx HNV.out
                  · intro j t _ hs
                    match j, hs with
                    | 0, hs => exact hs
                    | 1, hs => exact hs
                    | 2, hs => exact hs
                    | 3, hs => exact hs
                    | 4, hs => exact hs
                    | 5, hs => exact hs
                    | 6, hs => exact hs
                    | 7, hs => exact hs
                    | 8, hs => exact hs
                    | 9, hs => exact hs
                    | 10, hs => exact hs
                    | _ + 11, _ => trivial
                | n + 11, _, ho, _, _, _, _, _ => simp at ho
              · intro V w9 hC9 hS
                simp only [puts, put_none]
                simp only [Act.put, List.setIfInBounds_toArray, List.set_cons_zero, List.set_cons_succ]
                clear hS 
                have NY := hiddenN (hC9.2 rfl)
                clear hC9
                go_wp2
                go_roundg (m - (jx + 1))
                case measure => omega
                case rel => exact ⟨jx + 1, by omega, rfl, by go_num, NY.out⟩
            · have hji : ¬ (jx : Int) < (m : Int) := by omega
              have hjm : jx = m := by omega
              have N4 : Hid (NrW rb Q PB NB m (iniL S m (kx + 1)) (fun _ => false) near (kx + 1) W4 wr) := HS.out.like rfl (fun _ _ => rfl) fun i _ j hj => by
                unfold rowJ
                by_cases e : i = kx
                · rw [if_pos e, if_pos (by omega)]
                · rw [if_neg e]
              clear HS hjm
              go_wp2
              go_roundg (m - (kx + 1))
              case measure => omega
              case rel => exact ⟨kx + 1, rb, by omega, rfl, by go_num, N4.out⟩
        · have hki : ¬ (kx : Int) < (m : Int) := by omega
          have hkm : kx = m := by omega
          have N5 : Hid (NrW rb0 Q PB NB m (plnP S (docP S near m 0) m) (docB S m 0) near m W4 wr) := by
            have q := HN.out
            rw [hkm] at q
            exact q.like (iniL_all S near m) (fun i _ => by unfold docB; simp [ordV]) fun _ _ _ _ => rfl
          clear HN hkm
          go_wp2
          go_loopg [91] m (fun gk u wr => ∃ (kx : Nat) (rb : Nat → Nat), kx ≤ m ∧ gk = m - kx ∧ u = .int .i64 (kx : Int) ∧ NrW rb Q PB NB m (plnP S (docP S near m kx) m) (docB S m kx) near m W4 wr)
          case atStart => exact ⟨0, _, Nat.zero_le _, rfl, rfl, N5.out⟩
          case round =>
            clear N5
            obtain ⟨kx, rb, hk, rfl, rfl, hN⟩ := hrel
            have HN := hiddenN hN
            clear hN
            by_cases hlt : kx < m
            · have hki : (kx : Int) < (m : Int) := by omega
              obtain ⟨x, b, hds⟩ := doc_step PF0.out near hlt
              have DS := hiddenN hds
              clear hds
              go_wp2
              go_loopg [17, 18] m (fun gk u17 u18 wz => ∃ ix : Nat, ix ≤ m ∧ gk = m - ix ∧ u17 = .int .i64 (nxI (nxtP S (docB S m kx) ix)) ∧ u18 = .int .i64 (ix : Int) ∧ NrW rb Q PB NB m (plnP S (docP S near m kx) m) (docB S m kx) near m W4 wz)
              case atStart => exact ⟨0, Nat.zero_le _, rfl, rfl, rfl, HN.out⟩
              case round =>
                clear HN
                obtain ⟨ix, hix, rfl, rfl, rfl, hN⟩ := hrel
                have HZ := hiddenN hN
                clear hN
                by_cases hilt : ix < m
                · have hii : (ix : Int) < (m : Int) := by omega
                  obtain ⟨pb, po, rfl, hcc⟩ := MC.out _ HZ.out.bel ix hilt
                  have p0 := hcc ix hilt
                  have p1 := HZ.out.hpl.cell hilt
                  cases hb : docB S m kx ix with
                  | true =>
                    rw [hb] at p1
                    have HE : Hid (nxtP S (docB S m kx) (ix + 1) = nxtP S (docB S m kx) ix) := by
                      show _ = _
                      rw [nxtP]
                      cases nxtP S (docB S m kx) ix with
                      | none => simp [hb]
                      | some y => simp [hb]
                    clear hcc hb
                    obtain ⟨nx, hnx⟩ : ∃ q, nxI (nxtP S (docB S m kx) ix) = q := ⟨_, rfl⟩
                    have HNX := hiddenN hnx
                    rw [hnx]
                    clear hnx
                    go_upto_region 26 with fail
                    go_quiet (fail)
                    go_wp2
                    go_roundg (m - (ix + 1))
                    case measure => omega
                    case rel => exact ⟨ix + 1, by omega, rfl, by rw [HE.out, HNX.out], by go_num, HZ.out.below (drewB (Below.refl _ _) _)⟩
                  | false =>
                    rw [hb] at p1
                    cases hy : nxtP S (docB S m kx) ix with
                    | none =>
                      have HE : Hid (nxtP S (docB S m kx) (ix + 1) = some ix) := by
                        show _ = _
                        rw [nxtP, hy]
                        simp [hb]
                      clear hcc hb hy
                      have e1 : nxI none = -1 := rfl
                      rw [e1]
                      go_upto_region 26 with fail
                      go_quiet (fail)
                      go_wp2
                      go_roundg (m - (ix + 1))
                      case measure => omega
                      case rel => exact ⟨ix + 1, by omega, rfl, by rw [HE.out]; rfl, by go_num, HZ.out.below (drewB (Below.refl _ _) _)⟩
                    | some yx =>
                      have hyl := (nxtP_some hy).1
                      have p2 := hcc yx (by omega)
                      have hym : (yx : Int) < (m : Int) := by omega
                      have hy0 : ¬ (yx : Int) < 0 := by omega
                      have e1 : nxI (some yx) = (yx : Int) := rfl
                      rw [e1]
                      obtain ⟨s1, hs1⟩ : ∃ q, S ix = q := ⟨_, rfl⟩
                      obtain ⟨s2, hs2⟩ : ∃ q, S yx = q := ⟨_, rfl⟩
                      rw [hs1] at p0
                      rw [hs2] at p2
                      by_cases hgt : s2 < s1
                      · have hgt' : s1 > s2 := hgt
                        have HE : Hid (nxtP S (docB S m kx) (ix + 1) = some ix) := by
                          show _ = _
                          rw [nxtP, hy]
                          dsimp only
                          rw [if_pos ⟨hb, by rw [hs1, hs2]; exact hgt⟩]
                        clear hcc hb hy hs1 hs2 hyl
                        go_upto_region 26 with fail
                        go_quiet (fail)
                        go_wp2
                        go_roundg (m - (ix + 1))
                        case measure => omega
                        case rel => exact ⟨ix + 1, by omega, rfl, by rw [HE.out]; rfl, by go_num, HZ.out.below (drewB (Below.refl _ _) _)⟩
                      · have hgt' : ¬ s1 > s2 := hgt
                        have HE : Hid (nxtP S (docB S m kx) (ix + 1) = some yx) := by
                          show _ = _
                          rw [nxtP, hy]
                          dsimp only
                          rw [if_neg (fun q => hgt (by have := q.2; rw [hs1, hs2] at this; exact this))]
                        clear hcc hb hy hs1 hs2 hyl
                        go_upto_region 26 with fail
                        go_quiet (fail)
                        go_wp2
                        go_roundg (m - (ix + 1))
                        case measure => omega
                        case rel => exact ⟨ix + 1, by omega, rfl, by rw [HE.out]; rfl, by go_num, HZ.out.below (drewB (Below.refl _ _) _)⟩
                · have hii : ¬ (ix : Int) < (m : Int) := by omega
                  have him : ix = m := by omega
                  have hnx : nxI (nxtP S (docB S m kx) ix) = (x : Int) := by rw [him, DS.out.nxt]; rfl
                  rw [hnx]
                  clear hnx him
                  have hxm := DS.out.lt
                  have hxi : (x : Int) < (m : Int) := by omega
                  have hre := HZ.out.reg
                  have RBc : Hid (Calls Tryz.prog 37 #[.slice (some ⟨Q, 0, none⟩) m m, .slice (some ⟨PB, 0, none⟩) m m, .slice (some ⟨NB, 0, none⟩) m m, .int .i64 (x : Int)] wr fun e w' => e = .returned (.int .i64 b) ∧ Below wr.heap.size wr w') := by
                    have q := rbase_anyX Q 0 m PB 0 m NB 0 m (rb x) 0 m x m (plnP S (docP S near m kx) m) (docB S m kx) near wr hxm hmost (fun j hj => by
                      have r := capGn_cells hre (i := j) (by rw [HZ.out.len]; exact hj)
                      rw [Nat.zero_add]
                      exact ⟨r.1, r.2.1⟩) (fun j hj => by rw [Nat.zero_add]; exact HZ.out.hpl.cell hj) (by
                      have r := HZ.out.hnr.cell hxm
                      rw [if_pos hxm] at r
                      rw [Nat.zero_add]; exact r) (fun j hj => by rw [Nat.zero_add]; exact (HZ.out.row x hxm).cell hj) (fun j hj => doc_few PF0.out PF1.out near (by omega) hmost j hj)
                    rw [nthX_pln hxm] at q
                    rw [show lstV (nbI (plnP S (docP S near m kx) m) (fun c => docB S m kx c && near x c) m) (basP (docP S near m kx) x, S x).2 = b from DS.out.bas] at q
                    exact q
                  clear hre
                  go_upto_region 28 with fail
                  go_upto_region 29 with (go_at_call 37; (with_reducible refine RBc.out.mono ?_); rintro e w9 ⟨rfl, q2⟩; have N9 := hiddenN (HZ.out.below q2); clear q2; obtain ⟨k0, k1, k2, k3⟩ := capGn_cells N9.out.reg (i := x) (by rw [N9.out.len]; exact hxm))
                  have N10 := hiddenN (N9.out.base hxm b)
                  have EP : Hid ((plnP S (docP S near m kx) m).set x (b, (nthX (plnP S (docP S near m kx) m) x).2) = plnP S (docP S near m (kx + 1)) m) := by
                    show _ = _
                    rw [nthX_pln hxm]
                    exact DS.out.pln.symm
                  rw [EP.out] at N10
                  clear k0 k1 k2 k3 N9 HZ RBc EP
                  generalize w9.setCell ⟨Q, x * 2, none⟩ (.int .i64 b) = wc at *
                  have p1 := N10.out.hpl.cell hxm
                  have p2 := N10.out.hpl.frozen x
                  have N11 : Hid (NrW rb Q PB NB m (plnP S (docP S near m (kx + 1)) m) (docB S m (kx + 1)) near m W4 (wc.setCell ⟨PB, x, none⟩ (.bool true))) := (N10.out.placed x).like rfl (fun i _ => (DS.out.pl i).symm) fun _ _ _ _ => rfl
                  clear N10
                  go_wp2
                  go_roundg (m - (kx + 1))
                  case measure => omega
                  case rel => exact ⟨kx + 1, rb, by omega, rfl, by go_num, N11.out⟩
            · have hki : ¬ (kx : Int) < (m : Int) := by omega
              have hkm : kx = m := by omega
              have CV : Hid (CapGn Q wr (some ⟨Q, 0, none⟩) m PV) := by
                have q := HN.out.reg
                rw [hkm, HEQ.out] at q
                exact q
              have Bw := hiddenN (B4.out.trans (HN.out.bel.mono (by have := B4.out.size; omega)))
              have h4r := HN.out.bel.size
              have Bq := hiddenN HN.out.bel
              have hWQ : W.heap.size ≤ Q := by have := B4.out.size; omega
              have CE := hiddenN (fun (wz : World) (hb : Below wr.heap.size wr wz) => rcells_wide (some ⟨Q, 0, none⟩) m m PV wz (CV.out.at.below hb) HPVL.out HFEW.out (by omega))
              generalize celP PV = tot at *
              clear hkm HN HEQ
              by_cases hgt : 1024 < tot
              · have hgt' : tot > 1024 := hgt
                have EN := hiddenN (HEN.out hgt)
                clear HEY HEN
                go_upto_region 32 with (go_at_call 38; (with_reducible refine (CE.out _ (Below.refl _ _)).mono ?_); rintro e W9 ⟨rfl, hg⟩; have B9 := hiddenN hg; clear hg)
                have Bz := hiddenN (Bw.out.trans (B9.out.mono Bw.out.size))
                have D9 := hiddenN (D4.out.below (by rw [hQ]; exact Bq.out.trans (B9.out.mono (by omega))))
                go_wp2_with (refine wpList_storeW _ rfl 41 (.tmp 4) (.tmp 136) rfl rfl (nb + 1) 41 _ _ rfl rfl D9.out Tryz.sizPl rfl rfl ?_; intro w8 hN hU; have x0 := hN.cell (k := 0) rfl; have x1 := hN.cell (k := 1) rfl; simp only [List.getElem_toArray, List.getElem_cons_zero, List.getElem_cons_succ] at x0 x1; have U8 := hiddenN hU; clear hN hU)
                refine bodyPost_ret (v := .tuple #[.agg #[.slice none 0 0, .int .i64 0], .int .i64 5]) (by simp [results, Tryz.results15, go_sem, x0, x1]) rfl ?_
                exact EN.out w8 (Bz.out.trans (U8.out.below (by omega) (by have := Bz.out.size; omega)))
              · have hgt' : ¬ tot > 1024 := hgt
                have EY := hiddenN (HEY.out (by omega))
                clear HEY HEN
                go_upto_region 33 with (go_at_call 38; (with_reducible refine (CE.out _ (Below.refl _ _)).mono ?_); rintro e W9 ⟨rfl, hg⟩; have B9 := hiddenN hg; clear hg)
                go_wp2_with (first | (go_at_call 38; (with_reducible refine (CE.out _ B9.out).mono ?_); rintro e W10 ⟨rfl, hg⟩; have B10 := hiddenN (B9.out.trans (hg.mono B9.out.size)); clear hg; have D10 := hiddenN (D4.out.below (by rw [hQ]; exact Bq.out.trans (B10.out.mono (by omega))))) | (refine wpList_storeW _ rfl 41 (.tmp 4) (.tmp 140) rfl rfl (nb + 1) 41 _ _ rfl rfl D10.out Tryz.sizPl rfl rfl ?_; intro w8 hN hU; have x0 := hN.cell (k := 0) rfl; have x1 := hN.cell (k := 1) rfl; simp only [List.getElem_toArray, List.getElem_cons_zero, List.getElem_cons_succ] at x0 x1; have U8 := hiddenN hU; clear hN hU))
                have C10 := hiddenN (CV.out.later B10.out)
                have Bz := hiddenN (Bw.out.trans (B10.out.mono Bw.out.size))
                refine bodyPost_ret (v := .tuple #[.agg #[.slice (some ⟨Q, 0, none⟩) m m, .int .i64 tot], .int .i64 0]) (by simp [results, Tryz.results15, go_sem, x0, x1]) rfl ?_
                exact EY.out w8 _ _ ((C10.out.keep fun x hx => by cases hx; exact U8.out.block Q (C10.out.lt _ rfl).2 (by omega)).mono (by omega)) (Bz.out.trans (U8.out.below (by omega) (by have := Bz.out.size; omega)))
    | false =>
      have DM1 : dmC n zs = 181 := by unfold dmC; rw [if_pos hc, hh]; rfl
      have HEND : Hid (∀ (wz : World), Below W.heap.size W wz → PE (.returned (.tuple #[.agg #[.slice none 0 0, .int .i64 0], .int .i64 181])) wz) := fun wz q2 => by
        have q := HENDc.out (by rw [DM1]; decide) wz q2
        rw [DM1] at q
        exact q
      have CL1 : Hid (Calls Tryz.prog 9 #[.agg #[.int .i64 n.nodes, .slice a n.arcs.length c], .slice al zs.length cl] ((W.alloc (.cells #[.int .i64 n.nodes, .slice a n.arcs.length c] 24)).alloc (.cells #[.slice none 0 0, .int .i64 0] 41)) fun e w' => ∃ dp cp, e = .returned (.tuple #[.slice dp (cloL n zs).length cp, .int .i64 0]) ∧ Below ((W.alloc (.cells #[.int .i64 n.nodes, .slice a n.arcs.length c] 24)).alloc (.cells #[.slice none 0 0, .int .i64 0] 41)).heap.size ((W.alloc (.cells #[.int .i64 n.nodes, .slice a n.arcs.length c] 24)).alloc (.cells #[.slice none 0 0, .int .i64 0] 41)) w') := (CLE.out _ B0.out).mono fun e w' ⟨dp, cp, e1, q1, q2⟩ => ⟨dp, cp, by rw [hc] at e1; exact e1, q2⟩
      have HO1 : Hid (∀ U, Below W.heap.size W U → Calls Tryz.prog 34 #[.agg #[.int .i64 n.nodes, .slice a n.arcs.length c], .slice al zs.length cl] U fun e w' => e = .returned (.tuple #[.bool false, .int .i64 0]) ∧ Below U.heap.size U w') := fun U hb => by
        have q := HOE.out U hb
        rw [hc, hh] at q
        exact q
      clear CLE HOE MOE HENDc HPE hc hh DM1
      go_enter Tryz.func15, Tryz.ntmps15
      go_upto_region 1 with fail
      generalize ((W.alloc (.cells #[.int .i64 n.nodes, .slice a n.arcs.length c] 24)).alloc (.cells #[.slice none 0 0, .int .i64 0] 41)) = W1 at *
      obtain ⟨nb, hnb⟩ : ∃ q, W.heap.size = q := ⟨_, rfl⟩
      rw [hnb] at G0 D0 z0 z1 ⊢
      have hnb1 : nb + 1 < W1.heap.size := D0.out.lt
      go_upto_region 2 with (go_at_call 9; (with_reducible refine CL1.out.mono ?_); rintro e w2 ⟨dp, cp, rfl, q2⟩; have B2 := hiddenN (B0.out.trans (q2.mono B0.out.size)); have G2 := hiddenN (G0.out.below q2); have D2 := hiddenN (D0.out.below q2); have h12 := q2.size; clear q2)
      clear z0 z1 CL1
      have z0 := G2.out.cell (k := 0) rfl
      have z1 := G2.out.cell (k := 1) rfl
      simp only [List.getElem_toArray, List.getElem_cons_zero, List.getElem_cons_succ] at z0 z1
      go_upto_region 5 with (go_at_call 34; (with_reducible refine (HO1.out _ B2.out).mono ?_); rintro e w3 ⟨rfl, q2⟩; have B3 := hiddenN (B2.out.trans (q2.mono B2.out.size)); have D3 := hiddenN (D2.out.below q2); have h23 := q2.size; clear q2)
      go_wp2_with (refine wpList_storeW _ rfl 41 (.tmp 4) (.tmp 37) rfl rfl (nb + 1) 41 _ _ rfl rfl D3.out Tryz.sizPl rfl rfl ?_; intro w8 hN hU; have x0 := hN.cell (k := 0) rfl; have x1 := hN.cell (k := 1) rfl; simp only [List.getElem_toArray, List.getElem_cons_zero, List.getElem_cons_succ] at x0 x1; have U8 := hiddenN hU; clear hN hU)
      refine bodyPost_ret (v := .tuple #[.agg #[.slice none 0 0, .int .i64 0], .int .i64 181]) (by simp [results, Tryz.results15, go_sem, x0, x1]) rfl ?_
      exact HEND.out w8 (B3.out.trans (U8.out.below (by omega) (by have := B3.out.size; omega)))
  · have DM1 : dmC n zs = codeV n zs := if_neg hc
    have HEND : Hid (∀ (wz : World), Below W.heap.size W wz → PE (.returned (.tuple #[.agg #[.slice none 0 0, .int .i64 0], .int .i64 (codeV n zs)])) wz) := fun wz q2 => by
      have q := HENDc.out (by rw [DM1]; exact hc) wz q2
      rw [DM1] at q
      exact q
    have CL1 : Hid (Calls Tryz.prog 9 #[.agg #[.int .i64 n.nodes, .slice a n.arcs.length c], .slice al zs.length cl] ((W.alloc (.cells #[.int .i64 n.nodes, .slice a n.arcs.length c] 24)).alloc (.cells #[.slice none 0 0, .int .i64 0] 41)) fun e w' => ∃ dp cp, e = .returned (.tuple #[.slice dp (cloL n zs).length cp, .int .i64 (codeV n zs)]) ∧ Below ((W.alloc (.cells #[.int .i64 n.nodes, .slice a n.arcs.length c] 24)).alloc (.cells #[.slice none 0 0, .int .i64 0] 41)).heap.size ((W.alloc (.cells #[.int .i64 n.nodes, .slice a n.arcs.length c] 24)).alloc (.cells #[.slice none 0 0, .int .i64 0] 41)) w') := (CLE.out _ B0.out).mono fun e w' ⟨dp, cp, e1, q1, q2⟩ => ⟨dp, cp, e1, q2⟩
    have qc : (codeV n zs != 0) = true := by simpa using hc
    clear CLE HOE MOE HENDc HPE hc DM1
    generalize codeV n zs = cd at *
    go_enter Tryz.func15, Tryz.ntmps15
    go_upto_region 1 with fail
    generalize ((W.alloc (.cells #[.int .i64 n.nodes, .slice a n.arcs.length c] 24)).alloc (.cells #[.slice none 0 0, .int .i64 0] 41)) = W1 at *
    obtain ⟨nb, hnb⟩ : ∃ q, W.heap.size = q := ⟨_, rfl⟩
    rw [hnb] at G0 D0 z0 z1 ⊢
    have hnb1 : nb + 1 < W1.heap.size := D0.out.lt
    go_upto_region 2 with (go_at_call 9; (with_reducible refine CL1.out.mono ?_); rintro e w2 ⟨dp, cp, rfl, q2⟩; have B2 := hiddenN (B0.out.trans (q2.mono B0.out.size)); have D2 := hiddenN (D0.out.below q2); have h12 := q2.size; clear q2)
    go_wp2_with (refine wpList_storeW _ rfl 41 (.tmp 4) (.tmp 27) rfl rfl (nb + 1) 41 _ _ rfl rfl D2.out Tryz.sizPl rfl rfl ?_; intro w8 hN hU; have x0 := hN.cell (k := 0) rfl; have x1 := hN.cell (k := 1) rfl; simp only [List.getElem_toArray, List.getElem_cons_zero, List.getElem_cons_succ] at x0 x1; have U8 := hiddenN hU; clear hN hU)
    refine bodyPost_ret (v := .tuple #[.agg #[.slice none 0 0, .int .i64 0], .int .i64 cd]) (by simp [results, Tryz.results15, go_sem, x0, x1]) rfl ?_
    exact HEND.out w8 (B2.out.trans (U8.out.below (by omega) (by have := B2.out.size; omega)))
theorem Tryz.sizGnY : (Tryz.prog.info? 47).map (·.size) = some 2 := by kernel_rfl
/-- All stays but a plan's box and its row. -/
structure ButT (d : Option Addr) (ab : Nat) (w w' : World) : Prop where
  os : w'.os = w.os
  tape : w'.tape = w.tape
  output : w'.output = w.output
  size : w.heap.size ≤ w'.heap.size
  block : ∀ k, k < w.heap.size → k ≠ ab → (∀ y, d = some y → y.block ≠ k) → w'.heap[k]? = w.heap[k]?
theorem ButT.refl (d : Option Addr) (ab : Nat) (w : World) : ButT d ab w w := ⟨rfl, rfl, rfl, Nat.le_refl _, fun _ _ _ _ => rfl⟩
theorem ButT.row {g ab : Nat} {w w1 w2 : World} (h : ButT (some ⟨g, 0, none⟩) ab w w1) (hb : But g w1 w2) : ButT (some ⟨g, 0, none⟩) ab w w2 :=
  ⟨hb.os.trans h.os, hb.tape.trans h.tape, hb.output.trans h.output, Nat.le_trans h.size hb.size, fun k hk h1 h2 => (hb.block k (Nat.lt_of_lt_of_le hk h.size) (fun e => h2 _ rfl e.symm)).trans (h.block k hk h1 h2)⟩
theorem ButT.belowT {d : Option Addr} {ab Q : Nat} {w w' : World} (h : ButT d ab w w') (hQ : Q ≤ w.heap.size) (ha : Q ≤ ab) (hd : ∀ y, d = some y → Q ≤ y.block) : Below Q w w' :=
  ⟨h.os, h.tape, h.output, h.size, fun k hk => h.block k (Nat.lt_of_lt_of_le hk hQ) (by omega) (fun y hy e => by have := hd y hy; omega)⟩
set_option maxRecDepth 100000 in
set_option maxHeartbeats 16000000 in
theorem packPlaces_walk (n : NN) (a : Option Addr) (c : Nat) (a1 : Option Addr) (len1 cap1 : Nat) (zs : List Int) (w : World) (h : ArgN w a c n) (h1 : Arg w a1 len1 cap1 zs) : Calls Tryz.prog 4 #[.agg #[.int .i64 n.nodes, .slice a n.arcs.length c], .slice a1 len1 cap1] w fun e w' => e = .returned (.bool true) ∧ Below w.heap.size w w' := by
  obtain rfl := h1.size
  have b0 := (Below.refl w.heap.size w).alloc (Nat.le_refl _) (.cells #[.int .i64 n.nodes, .slice a n.arcs.length c] 24)
  have G0 := hiddenN (blkA_new 24 w #[.int .i64 n.nodes, .slice a n.arcs.length c])
  have B0 := hiddenN b0
  have HA := hiddenN h
  have H1 := hiddenN h1
  have hroom : n.arcs.length ≤ 4611686018427387904 := by have := h.room; omega
  have hzl : zs.length ≤ 4611686018427387904 := by have := h1.reach; omega
  have LN : Hid (∀ U, Below w.heap.size w U → Calls Tryz.prog 6 #[.agg #[.int .i64 n.nodes, .slice a n.arcs.length c]] U (LentE n U)) := fun U hb => lentNet_any n a c U (HA.out.below hb)
  have AW : Hid (∀ U, Calls Tryz.prog 11 #[] U fun e w' => e = .returned (.bool true) ∧ Below U.heap.size U w') := fun U => awakeX U
  have z0 := G0.out.cell (k := 0) rfl
  have z1 := G0.out.cell (k := 1) rfl
  simp only [List.getElem_toArray, List.getElem_cons_zero, List.getElem_cons_succ] at z0 z1
  clear b0 h h1
  have CA : Hid (∀ U x y cx cy, AtN U (some x) n.arcs → At U y zs → Calls Tryz.prog 14 #[.agg #[.int .i64 n.nodes, .slice (some x) n.arcs.length cx], .slice y zs.length cy] U (PlaE n zs U)) := fun U x y cx cy q1 q2 => place_anyX n (some x) cx U q1 hroom (fun e => by cases e) y cy zs q2 hzl
  have CW : Hid (∀ U, Below w.heap.size w U → Calls Tryz.prog 15 #[.agg #[.int .i64 n.nodes, .slice a n.arcs.length c], .slice a1 zs.length cap1] U (PlaE n zs U)) := fun U hb => rplace19_any n a c U ((HA.out.below hb).lies) hroom a1 cap1 zs ((H1.out.below hb).lies) hzl
  have HM6 : Hid ((plaL n zs).length ≤ 1000000) := by
    show _ ≤ _
    unfold plaL
    by_cases hc : plaC n zs = 0
    · rw [if_pos hc, plnV_len, mostM_len]
      have hd : dmC n zs = 0 := by
        by_cases hd : dmC n zs = 0
        · exact hd
        · unfold plaC at hc; rw [if_neg hd] at hc; exact hc
      have := (check_sound (code_zero (dm_zero hd).1).1).most
      omega
    · rw [if_neg hc]; exact Nat.zero_le _
  unfold PlaE at CA CW
  generalize plaL n zs = CL at *
  generalize plaC n zs = cd at *
  generalize plaT n zs = tot at *
  obtain ⟨m, hm⟩ : ∃ q, CL.length = q := ⟨_, rfl⟩
  have HML := hiddenN hm
  rw [hm] at CA CW HM6
  have SP : Hid (∀ U (x y : Option Addr) cx cy, AtGn U x CL → AtGn U y CL → Calls Tryz.prog 16 #[.agg #[.slice x m cx, .int .i64 tot], .agg #[.slice y m cy, .int .i64 tot]] U fun e w' => e = .returned (.bool true) ∧ Below U.heap.size U w') := fun U x y cx cy q1 q2 => same_planX x y m cx cy CL tot U q1 q2 HML.out HM6.out
  have qd : (cd != cd) = false := by simp
  clear hm
  have LD : Hid (∀ U, Below w.heap.size w U → Calls Tryz.prog 7 #[.slice a1 zs.length cap1] U fun e w' => ∃ gl, e = .returned (.slice (some ⟨gl, 0, none⟩) zs.length (zs.length + 4)) ∧ Lend U.heap.size w' gl zs.length zs ∧ Below U.heap.size U w') := fun U hb => lent_any a1 zs zs.length cap1 U (H1.out.below hb)
  go_enter Tryz.func4, Tryz.ntmps4
  go_upto_region 1 with fail
  generalize w.alloc (.cells #[.int .i64 n.nodes, .slice a n.arcs.length c] 24) = W0 at *
  go_upto_region 2 with (go_at_call 6; (with_reducible refine (LN.out _ B0.out).mono ?_); rintro e W1 ⟨g, gc, rfl, q1, q2⟩; have E1 := hiddenN q1; have L1 := hiddenN (B0.out.trans (q2.mono B0.out.size)); have G1 := hiddenN (G0.out.below q2); have h01 := hiddenN q2.size; clear q1 q2 z0 z1)
  have bM := (Below.refl W1.heap.size W1).alloc (Nat.le_refl _) (.cells #[.int .i64 n.nodes, .slice (some ⟨g, 0, none⟩) n.arcs.length gc] 24)
  have XM := hiddenN (blkA_new 24 W1 #[.int .i64 n.nodes, .slice (some ⟨g, 0, none⟩) n.arcs.length gc])
  have E2 := hiddenN (E1.out.below bM)
  have L2 := hiddenN (L1.out.trans (bM.mono L1.out.size))
  have G2 := hiddenN (G1.out.below bM)
  have hsM := hiddenN bM.size
  generalize W1.alloc (.cells #[.int .i64 n.nodes, .slice (some ⟨g, 0, none⟩) n.arcs.length gc] 24) = W2 at *
  clear bM
  go_upto_region 3 with (go_at_call 7; (with_reducible refine (LD.out _ L2.out).mono ?_); rintro e W3 ⟨gl, rfl, q1, q2⟩; have D3 := hiddenN q1; have HD0 := hiddenN (show HdV w W3 n a c g gc gl W1.heap.size W3.heap.size zs from ⟨G2.out.below q2, XM.out.below q2, ⟨Nat.le_trans B0.out.size E1.out.low, (E2.out.below q2).lt, E2.out.cap, (E2.out.below q2).all⟩, ⟨Nat.le_trans L2.out.size q1.1, q1.2⟩, L2.out.trans (q2.mono L2.out.size), (G2.out.below q2).lt, (XM.out.below q2).lt, (E2.out.below q2).lt, q1.lt.2, Nat.le_refl _⟩); clear q1 q2)
  obtain ⟨mb, hmb⟩ : ∃ q, W1.heap.size = q := ⟨_, rfl⟩
  obtain ⟨Q, hQ⟩ : ∃ q, W3.heap.size = q := ⟨_, rfl⟩
  have HD3 := HD0
  rw [hQ] at HD3
  have HQ := hiddenN hQ
  clear LD LN G0 G1 E1 L1 h01 XM E2 L2 G2 hsM D3 HD0 hQ hmb
  have m0 := HD3.out.box.cell (k := 0) rfl; have m1 := HD3.out.box.cell (k := 1) rfl; simp only [List.getElem_toArray, List.getElem_cons_zero, List.getElem_cons_succ] at m0 m1
  go_upto_region 4 with (go_at_call 14; (with_reducible refine (CA.out _ ⟨g, 0, none⟩ (some ⟨gl, 0, none⟩) gc (zs.length + 4) HD3.out.ldn.at HD3.out.lst.at).mono ?_); rintro e V4 ⟨d1, c1, rfl, q1, q2⟩; have HX := hiddenN (HD3.out.below q2); have R1x := hiddenN q1; have SX := hiddenN q2.size; clear q1 q2 HD3)
  have bX := (Below.refl V4.heap.size V4).alloc (Nat.le_refl _) (.cells #[.slice d1 m c1, .int .i64 tot] 41)
  have Y1 := hiddenN (blkA_new 41 V4 #[.slice d1 m c1, .int .i64 tot])
  have R1 := hiddenN (R1x.out.later bX)
  have HD4 := hiddenN (HX.out.below bX)
  have T1 : Hid (∀ y, d1 = some y → W3.heap.size ≤ y.block ∧ y.block < V4.heap.size) := fun y hy => R1x.out.lt y hy
  have sX : (V4.alloc (.cells #[.slice d1 m c1, .int .i64 tot] 41)).heap.size = V4.heap.size + 1 := World.size_alloc ..
  clear bX HX R1x  m0 m1
  generalize V4.alloc (.cells #[.slice d1 m c1, .int .i64 tot] 41) = W4 at *
  obtain ⟨ab, hbx⟩ : ∃ q, V4.heap.size = q := ⟨_, rfl⟩
  have SS1 : Hid (W3.heap.size ≤ ab ∧ W4.heap.size = ab + 1) := ⟨by rw [← hbx]; exact SX.out, by rw [sX, hbx]⟩
  rw [hbx] at Y1 T1
  (try rw [hbx])
  clear hbx sX SX
  have m0 := HD4.out.box.cell (k := 0) rfl; have m1 := HD4.out.box.cell (k := 1) rfl; simp only [List.getElem_toArray, List.getElem_cons_zero, List.getElem_cons_succ] at m0 m1
  have z0 := HD4.out.net.cell (k := 0) rfl; have z1 := HD4.out.net.cell (k := 1) rfl; simp only [List.getElem_toArray, List.getElem_cons_zero, List.getElem_cons_succ] at z0 z1
  go_upto_region 5 with (go_at_call 14; (with_reducible refine (CA.out _ ⟨g, 0, none⟩ (some ⟨gl, 0, none⟩) gc (zs.length + 4) HD4.out.ldn.at HD4.out.lst.at).mono ?_); rintro e V5 ⟨d2, c2, rfl, q1, q2⟩; have HX := hiddenN (HD4.out.below q2); have R2x := hiddenN q1; have SX := hiddenN q2.size; have Y1x := hiddenN (Y1.out.below q2); have R1x := hiddenN (R1.out.later q2); clear q1 q2 HD4 Y1 R1)
  have bX := (Below.refl V5.heap.size V5).alloc (Nat.le_refl _) (.cells #[.slice d2 m c2, .int .i64 tot] 41)
  have Y2 := hiddenN (blkA_new 41 V5 #[.slice d2 m c2, .int .i64 tot])
  have R2 := hiddenN (R2x.out.later bX)
  have HD5 := hiddenN (HX.out.below bX)
  have T2 : Hid (∀ y, d2 = some y → W4.heap.size ≤ y.block ∧ y.block < V5.heap.size) := fun y hy => R2x.out.lt y hy
  have sX : (V5.alloc (.cells #[.slice d2 m c2, .int .i64 tot] 41)).heap.size = V5.heap.size + 1 := World.size_alloc ..
  have Y1 := hiddenN (Y1x.out.below bX)
  have R1 := hiddenN (R1x.out.later bX)
  clear bX HX R2x Y1x R1x m0 m1 z0 z1
  generalize V5.alloc (.cells #[.slice d2 m c2, .int .i64 tot] 41) = W5 at *
  obtain ⟨bb, hbx⟩ : ∃ q, V5.heap.size = q := ⟨_, rfl⟩
  have SS2 : Hid (W4.heap.size ≤ bb ∧ W5.heap.size = bb + 1) := ⟨by rw [← hbx]; exact SX.out, by rw [sX, hbx]⟩
  rw [hbx] at Y2 T2
  (try rw [hbx])
  clear hbx sX SX
  have m0 := HD5.out.box.cell (k := 0) rfl; have m1 := HD5.out.box.cell (k := 1) rfl; simp only [List.getElem_toArray, List.getElem_cons_zero, List.getElem_cons_succ] at m0 m1
  have z0 := HD5.out.net.cell (k := 0) rfl; have z1 := HD5.out.net.cell (k := 1) rfl; simp only [List.getElem_toArray, List.getElem_cons_zero, List.getElem_cons_succ] at z0 z1
  go_upto_region 6 with (go_at_call 15; (with_reducible refine (CW.out _ HD5.out.bel).mono ?_); rintro e V6 ⟨d3, c3, rfl, q1, q2⟩; have HX := hiddenN (HD5.out.below q2); have R3x := hiddenN q1; have SX := hiddenN q2.size; have Y1x := hiddenN (Y1.out.below q2); have R1x := hiddenN (R1.out.later q2); have Y2x := hiddenN (Y2.out.below q2); have R2x := hiddenN (R2.out.later q2); clear q1 q2 HD5 Y1 R1 Y2 R2)
  have bX := (Below.refl V6.heap.size V6).alloc (Nat.le_refl _) (.cells #[.slice d3 m c3, .int .i64 tot] 41)
  have Y3 := hiddenN (blkA_new 41 V6 #[.slice d3 m c3, .int .i64 tot])
  have R3 := hiddenN (R3x.out.later bX)
  have HD6 := hiddenN (HX.out.below bX)
  have T3 : Hid (∀ y, d3 = some y → W5.heap.size ≤ y.block ∧ y.block < V6.heap.size) := fun y hy => R3x.out.lt y hy
  have sX : (V6.alloc (.cells #[.slice d3 m c3, .int .i64 tot] 41)).heap.size = V6.heap.size + 1 := World.size_alloc ..
  have Y1 := hiddenN (Y1x.out.below bX)
  have R1 := hiddenN (R1x.out.later bX)
  have Y2 := hiddenN (Y2x.out.below bX)
  have R2 := hiddenN (R2x.out.later bX)
  clear bX HX R3x Y1x R1x Y2x R2x m0 m1 z0 z1
  generalize V6.alloc (.cells #[.slice d3 m c3, .int .i64 tot] 41) = W6 at *
  obtain ⟨ub, hbx⟩ : ∃ q, V6.heap.size = q := ⟨_, rfl⟩
  have SS3 : Hid (W5.heap.size ≤ ub ∧ W6.heap.size = ub + 1) := ⟨by rw [← hbx]; exact SX.out, by rw [sX, hbx]⟩
  rw [hbx] at Y3 T3
  (try rw [hbx])
  clear hbx sX SX
  have m0 := HD6.out.box.cell (k := 0) rfl; have m1 := HD6.out.box.cell (k := 1) rfl; simp only [List.getElem_toArray, List.getElem_cons_zero, List.getElem_cons_succ] at m0 m1
  have z0 := HD6.out.net.cell (k := 0) rfl; have z1 := HD6.out.net.cell (k := 1) rfl; simp only [List.getElem_toArray, List.getElem_cons_zero, List.getElem_cons_succ] at z0 z1
  have Y16 := Y1
  have Y26 := Y2
  have Y36 := Y3
  have R16 := R1
  have R26 := R2
  have R36 := R3
  clear Y1 Y2 Y3 R1 R2 R3 CA CW
  have xa0 := Y16.out.cell (k := 0) rfl; have xa1 := Y16.out.cell (k := 1) rfl; simp only [List.getElem_toArray, List.getElem_cons_zero, List.getElem_cons_succ] at xa0 xa1
  have xw0 := Y36.out.cell (k := 0) rfl; have xw1 := Y36.out.cell (k := 1) rfl; simp only [List.getElem_toArray, List.getElem_cons_zero, List.getElem_cons_succ] at xw0 xw1
  go_upto_region 8 with (first
    | (go_at_call 16; (with_reducible refine (SP.out _ _ _ _ _ R27.out.at R37.out.at).mono ?_); rintro e W8 ⟨rfl, q2⟩; have HD8 := hiddenN (HD7.out.below q2); have S8 := hiddenN q2.size; have Y18 := hiddenN (Y17.out.below q2); have R18 := hiddenN (R17.out.later q2); have Y28 := hiddenN (Y27.out.below q2); have R28 := hiddenN (R27.out.later q2); have Y38 := hiddenN (Y37.out.below q2); have R38 := hiddenN (R37.out.later q2); clear q2)
    | (go_at_call 16; (with_reducible refine (SP.out _ _ _ _ _ R16.out.at R36.out.at).mono ?_); rintro e W7 ⟨rfl, q2⟩; have HD7 := hiddenN (HD6.out.below q2); have S7 := hiddenN q2.size; have Y17 := hiddenN (Y16.out.below q2); have R17 := hiddenN (R16.out.later q2); have Y27 := hiddenN (Y26.out.below q2); have R27 := hiddenN (R26.out.later q2); have Y37 := hiddenN (Y36.out.below q2); have R37 := hiddenN (R36.out.later q2); clear q2; clear xa0 xa1 xw0 xw1; have xb0 := Y27.out.cell (k := 0) rfl; have xb1 := Y27.out.cell (k := 1) rfl; simp only [List.getElem_toArray, List.getElem_cons_zero, List.getElem_cons_succ] at xb0 xb1; have xw0 := Y37.out.cell (k := 0) rfl; have xw1 := Y37.out.cell (k := 1) rfl; simp only [List.getElem_toArray, List.getElem_cons_zero, List.getElem_cons_succ] at xw0 xw1))
  clear HD7 HD6 Y16 Y26 Y36 R16 R26 R36 Y17 Y27 Y37 R17 R27 R37 m0 m1 z0 z1 xb0 xb1 xw0 xw1
  have RA : Hid (RowU 47 2 Q W8 d1 c1 m) := ⟨_, by have q := R18.out; unfold CapGn at q; rw [HML.out, HQ.out] at q; exact q⟩
  have AL : Hid (∀ y, d1 = some y → Q ≤ y.block ∧ y.block < ab) := fun y hy => by have := T1.out y hy; rw [HQ.out] at this; exact this
  have hab : Q ≤ ab := by have := SS1.out.1; rw [HQ.out] at this; exact this
  have h45 : ab + 1 ≤ bb := by have := SS1.out.2; have := SS2.out.1; omega
  have h56 : bb + 1 ≤ ub := by have := SS2.out.2; have := SS3.out.1; omega
  have h68 : ub + 1 ≤ W8.heap.size := by have := SS3.out.2; have := S7.out; have := S8.out; omega
  have LF : Hid (∀ y, d2 = some y → ab < y.block ∧ y.block < W8.heap.size) := fun y hy => by have := T2.out y hy; have := SS1.out.2; omega
  have LC : Hid (∀ y, d3 = some y → ab < y.block ∧ y.block < W8.heap.size) := fun y hy => by have := T3.out y hy; have := SS2.out.2; omega
  have HM := HM6.out
  clear R18 T1 T2 T3 SS1 SS2 SS3 S7 S8
  have YA := Y18
  have xa0 := YA.out.cell (k := 0) rfl; have xa1 := YA.out.cell (k := 1) rfl; simp only [List.getElem_toArray, List.getElem_cons_zero, List.getElem_cons_succ] at xa0 xa1
  clear Y18
  go_wp2
  go_loopg [13] m (fun gk u wr => ∃ i : Nat, i ≤ m ∧ gk = m - i ∧ u = .int .i64 (i : Int) ∧ RowU 47 2 Q wr d1 c1 m ∧ BlkA 41 ab wr #[.slice d1 m c1, .int .i64 tot] ∧ ButT d1 ab W8 wr)
  case atStart => exact ⟨0, Nat.zero_le _, rfl, rfl, RA.out, YA.out, ButT.refl _ _ _⟩
  case round =>
    clear xa0 xa1
    obtain ⟨i, hi, rfl, rfl, hr, hy, hb⟩ := hrel
    have HR := hiddenN hr
    have HY := hiddenN hy
    have HBt := hiddenN hb
    clear hr hb hy
    have xa0 := HY.out.cell (k := 0) rfl; have xa1 := HY.out.cell (k := 1) rfl; simp only [List.getElem_toArray, List.getElem_cons_zero, List.getElem_cons_succ] at xa0 xa1
    by_cases hlt : i < m
    · have hii : (i : Int) < (m : Int) := by omega
      obtain ⟨gd, ed⟩ := HR.out.some (by omega)
      subst ed
      have hgd : gd < ab := (AL.out _ rfl).2
      have hoff : i * 2 + 2 ≤ m * 2 := by omega
      go_wp2_with (refine wpList_storeU rfl 47 (.tmp 68) (.tmp 67) rfl rfl gd (i * 2) #[.int .i64 (-7), .int .i64 0] rfl rfl HR.out hoff Tryz.sizGnY rfl ?_; intro w9 hb9 hr9; have HR9 := hiddenN hr9; have HB9 := hiddenN (HBt.out.row hb9); have HY9 := hiddenN (HY.out.keep (hb9.block ab HY.out.lt (by omega))); clear hb9 hr9)
      go_roundg (m - (i + 1))
      case measure => omega
      case rel => exact ⟨i + 1, by omega, rfl, by go_num, HR9.out, HY9.out, HB9.out⟩
    · have hii : ¬ (i : Int) < (m : Int) := by omega
      clear RA YA hlt hi
      generalize wr = V0 at *
      go_wp2
      go_loopg [14] 16 (fun gk u14 wr => ∃ (j : Nat) (d9 : Option Addr) (c9 : Nat), j ≤ 16 ∧ gk = 16 - j ∧ u14 = .int .i64 (j : Int) ∧ RowU 47 2 Q wr d9 c9 (m + j) ∧ BlkA 41 ab wr #[.slice d9 (m + j) c9, .int .i64 tot] ∧ (d9 = d1 ∨ ∀ y, d9 = some y → W8.heap.size ≤ y.block) ∧ ButT d1 ab W8 wr)
      case atStart => exact ⟨0, d1, c1, Nat.zero_le _, rfl, rfl, HR.out, HY.out, .inl rfl, HBt.out⟩
      case round =>
        clear HR HBt HY xa0 xa1
        obtain ⟨j, d9, c9, hj, rfl, rfl, hr, hy, hd, hb⟩ := hrel
        have HR := hiddenN hr
        have HY := hiddenN hy
        have HDD := hiddenN hd
        have HBt := hiddenN hb
        clear hr hd hb hy
        have xa0 := HY.out.cell (k := 0) rfl; have xa1 := HY.out.cell (k := 1) rfl; simp only [List.getElem_toArray, List.getElem_cons_zero, List.getElem_cons_succ] at xa0 xa1
        by_cases hlt : j < 16
        · have hji : (j : Int) < 16 := by omega
          have b7 := (Below.refl wr.heap.size wr).alloc (Nat.le_refl _) (.cells #[.int .i64 (-8), .int .i64 0] 47)
          have HR7 : Hid (RowU 47 2 Q (wr.alloc (.cells #[.int .i64 (-8), .int .i64 0] 47)) d9 c9 (m + j)) := by
            obtain ⟨xs, q⟩ := HR.out
            refine ⟨xs, q.1, ?_⟩
            rcases q.2 with h2 | ⟨g1, cap, cur, hv, hg, hh, r⟩
            · exact .inl h2
            · exact .inr ⟨g1, cap, cur, hv, hg, by rw [b7.block _ (Array.getElem?_eq_some_iff.1 hh).1]; exact hh, r⟩
          have HY7 := hiddenN (HY.out.below b7)
          have NE : Hid (∀ y, d9 = some y → y.block ≠ ab) := fun y hy => by
            rcases HDD.out with e2 | e2
            · have := (AL.out y (by rw [← e2]; exact hy)).2; omega
            · have := e2 y hy; omega
          have CX : Hid (∀ k u, [Value.int .i64 (-8), .int .i64 0][k]? = some u → (wr.alloc (.cells #[.int .i64 (-8), .int .i64 0] 47)).cell? ⟨wr.heap.size, k, none⟩ = some u) := (fun k u hu => (blkA_new 47 wr #[.int .i64 (-8), .int .i64 0]).cell (by rw [← Array.getElem?_toList]; exact hu))
          have BQ : Hid (Q ≤ (wr.alloc (.cells #[.int .i64 (-8), .int .i64 0] 47)).heap.size) := by show _ ≤ _; have := b7.size; have := HBt.out.size; have := HD8.out.low.2.2.2.2; omega
          have B7 := hiddenN b7
          have xc0 := HY7.out.cell (k := 0) rfl; have xc1 := HY7.out.cell (k := 1) rfl; simp only [List.getElem_toArray, List.getElem_cons_zero, List.getElem_cons_succ] at xc0 xc1
          clear b7
          go_wp2_with (at_builtin; refine wpList_appRowU (n := m + j) rfl _ _ 39 rfl Tryz.underlying39 _ 16 Tryz.infoGn rfl (by decide) (by decide) d9 c9 rfl HR7.out wr.heap.size [.int .i64 (-8), .int .i64 0] rfl rfl CX.out (fun u hu => by simp at hu; rcases hu with rfl | rfl <;> rfl) (by omega) BQ.out ?_; intro da ca w9 hg; have HG := hiddenN hg; have HY9 := hiddenN (HY7.out.keep (hg.keep ab HY7.out.lt NE.out)); have y0 := HY9.out.cell (k := 0) rfl; have y1 := HY9.out.frozen 0; clear hg)
          have HYA := hiddenN (HY9.out.set 0 (.slice da (m + j + 1) ca))
          have HD9 : Hid (da = d1 ∨ ∀ y, da = some y → W8.heap.size ≤ y.block) := by
            show _ ∨ _
            cases ea : da with
            | none => exact .inr fun y hy => by cases hy
            | some z =>
              rcases HG.out.new z ea with e | e
              · rcases HDD.out with e2 | e2
                · exact .inl (by rw [← e, e2])
                · exact .inr fun y hy => by cases hy; exact e2 z e
              · exact .inr fun y hy => by cases hy; have := B7.out.size; have := HBt.out.size; omega
          have HNA : Hid (∀ y, da = some y → y.block ≠ ab) := fun y hy => by
            rcases HD9.out with e2 | e2
            · have := (AL.out y (by rw [← e2]; exact hy)).2; omega
            · have := e2 y hy; omega
          have HRA : Hid (RowU 47 2 Q (w9.setCell ⟨ab, 0, none⟩ (.slice da (m + j + 1) ca)) da ca (m + j + 1)) := by
            obtain ⟨xs, q⟩ := HG.out.own
            refine ⟨xs, q.1, ?_⟩
            rcases q.2 with h2 | ⟨g1, cap, cur, hv, hg, hh, r⟩
            · exact .inl h2
            · exact .inr ⟨g1, cap, cur, hv, hg, by rw [Below.heap_setCell _ _ _ _ (by cases hv; exact HNA.out _ rfl)]; exact hh, r⟩
          have HB9 : Hid (ButT d1 ab W8 (w9.setCell ⟨ab, 0, none⟩ (.slice da (m + j + 1) ca))) := by
            have hs1 := HBt.out.size
            have hs2 := B7.out.size
            refine ⟨HG.out.os.trans (B7.out.os.trans HBt.out.os), HG.out.tape.trans (B7.out.tape.trans HBt.out.tape), HG.out.output.trans (B7.out.output.trans HBt.out.output), by rw [World.size_setCell]; exact Nat.le_trans hs1 (Nat.le_trans hs2 HG.out.size), fun k hk hka hne => ?_⟩
            rw [Below.heap_setCell _ _ _ _ hka]
            refine (HG.out.keep k (by omega) (fun y hy => ?_)).trans ((B7.out.block k (by omega)).trans (HBt.out.block k hk hka hne))
            rcases HDD.out with e2 | e2
            · exact hne y (by rw [← e2]; exact hy)
            · have := e2 y hy; omega
          go_roundg (16 - (j + 1))
          case measure => omega
          case rel => exact ⟨j + 1, da, ca, by omega, rfl, by go_num, HRA.out, HYA.out, HD9.out, HB9.out⟩
        · have hji : ¬ (j : Int) < 16 := by omega
          have bel := HBt.out.belowT (Q := Q) HD8.out.low.2.2.2.2 hab (fun y hy => (AL.out y hy).1)
          have HDE := hiddenN (HD8.out.keep bel)
          have R2E := hiddenN (R28.out.keep fun y hy => HBt.out.block y.block (LF.out y hy).2 (by have := (LF.out y hy).1; omega) (fun z hz => by have := (AL.out z hz).2; have := (LF.out y hy).1; omega))
          have R3E := hiddenN (R38.out.keep fun y hy => HBt.out.block y.block (LC.out y hy).2 (by have := (LC.out y hy).1; omega) (fun z hz => by have := (AL.out z hz).2; have := (LC.out y hy).1; omega))
          have Y2E := hiddenN (Y28.out.keep (HBt.out.block bb (by omega) (by omega) (fun z hz => by have := (AL.out z hz).2; omega)))
          have Y3E := hiddenN (Y38.out.keep (HBt.out.block ub (by omega) (by omega) (fun z hz => by have := (AL.out z hz).2; omega)))
          clear bel HR HY HDD HBt HD8 R28 R38 Y28 Y38 xa0 xa1
          go_wp2_with (first
            | (go_at_call 11; (with_reducible refine (AW.out _).mono ?_); rintro e VV ⟨rfl, q2⟩; have HDA := hiddenN (HDE.out.below q2); have FA := hiddenN (R2E.out.later q2); have CA := hiddenN (R3E.out.later q2); have YFA := hiddenN (Y2E.out.below q2); have YCA := hiddenN (Y3E.out.below q2); have xb0 := YFA.out.cell (k := 0) rfl; have xb1 := YFA.out.cell (k := 1) rfl; simp only [List.getElem_toArray, List.getElem_cons_zero, List.getElem_cons_succ] at xb0 xb1; have xw0 := YCA.out.cell (k := 0) rfl; have xw1 := YCA.out.cell (k := 1) rfl; simp only [List.getElem_toArray, List.getElem_cons_zero, List.getElem_cons_succ] at xw0 xw1; clear q2)
            | (go_at_call 16; (with_reducible refine (SP.out _ _ _ _ _ FA.out.at CA.out.at).mono ?_); rintro e VC ⟨rfl, q2⟩; have HDC := hiddenN (HDA.out.below q2); have z0 := HDC.out.net.cell (k := 0) rfl; have z1 := HDC.out.net.cell (k := 1) rfl; simp only [List.getElem_toArray, List.getElem_cons_zero, List.getElem_cons_succ] at z0 z1; have m0 := HDC.out.box.cell (k := 0) rfl; have m1 := HDC.out.box.cell (k := 1) rfl; simp only [List.getElem_toArray, List.getElem_cons_zero, List.getElem_cons_succ] at m0 m1; have KN := hiddenN (keptNet_any n g gc a c VC HDC.out.ldn (HA.out.below HDC.out.bel)); clear q2)
            | (go_at_call 12; (with_reducible refine KN.out.mono ?_); rintro e VK ⟨rfl, q2⟩; have HDK := hiddenN (HDC.out.below q2); have KP := hiddenN (kept_any gl a1 zs zs.length cap1 _ VK HDK.out.lst (H1.out.below HDK.out.bel)); clear q2)
            | (go_at_call 13; (with_reducible refine KP.out.mono ?_); rintro e VL ⟨m8, rfl, rfl⟩))
          go_ret
          exact ⟨by first | rfl | simp, drewB HDK.out.bel _⟩
end Go.Proofs.YtimioiaoefhabaaGreat
