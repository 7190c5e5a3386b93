/- Texts of one chain, laid one behind the other. -/
import Derived.Test.YtimioiaoefhabaaGreatPartPackPlaces24
import Derived.Test.YtimioiaoefhabaaGreatShelfS
namespace Go.Proofs.YtimioiaoefhabaaGreat
open Go.ChangeShapes Go.WideShapes Go.ChangeAt Go.RowKit
theorem swo_gnX : Go.Sort.SWO (ltOf fun x y : Int × Int => cmpX x.1 y.1) := by
  have e : ∀ x y : Int × Int, ltOf (fun x y : Int × Int => cmpX x.1 y.1) x y = decide (x.1 < y.1) := fun x y => by
    unfold ltOf
    exact decide_eq_decide.2 cmpX_lt
  refine ⟨fun x => by rw [e]; simp, fun x y z h1 h2 => ?_, fun x y z h1 h2 => ?_⟩
  · rw [e] at *; simp at *; omega
  · rw [e] at *; simp at *; omega
theorem sort_gnX {B : Nat} (a : Option Addr) (c : Nat) (L : List (Int × Int)) (W : World) (h : CapGn B W a c L) (hB : B ≤ W.heap.size) (hn : L.length ≤ 1000000) :
    Calls Tryz.prog 57 #[.slice a L.length c, .func (.func 58) #[] #[]] W fun e w' => e = .returned (.tuple #[]) ∧ ∃ L', L'.Perm L ∧ L'.Pairwise (fun x y => x.1 ≤ y.1) ∧ CapGn B w' a c L' ∧ Below B W w' := by
  by_cases h0 : L = []
  · subst h0
    have q := AnyF.slices_SortFunc_none Tryz.laysSlF06_f57 a c (.func (.func 58) #[] #[]) W
    change Calls Tryz.prog 57 _ _ _ at q
    refine q.mono ?_
    rintro e w' ⟨rfl, rfl⟩
    exact ⟨rfl, [], .refl _, List.Pairwise.nil, h, Below.refl _ _⟩
  · have hg : ∃ g, a = some ⟨g, 0, none⟩ := by
      rcases h.2 with ⟨-, hz⟩ | ⟨g, cap, cur, hv, -⟩
      · exact absurd (List.eq_nil_of_length_eq_zero hz) h0
      · cases hv; exact ⟨g, rfl⟩
    obtain ⟨g, rfl⟩ := hg
    have hs : L.toArray.size = L.length := List.size_toArray ..
    have hfk : ∀ d : Array (Int × Int), ((Go.Sort.flatK rnV 2 d).toList.map id) = flatGn d.toList := fun d => by
      have q := flatK_gn d.toList
      rw [Array.toArray_toList] at q
      rw [List.map_id, q]
    have hz : (Go.Sort.flatK rnV 2 L.toArray).size = L.length * 2 := by rw [Go.Sort.size_flatK, hs]
    have hO : W.ownsRow B 47 2 (.slice (some ⟨g, 0, none⟩) L.length c) L.length ((Go.Sort.flatK rnV 2 L.toArray).toList.map id) := by
      rw [hfk]
      exact h
    have hH : Go.Sort.HoldsK rnV 2 W g 0 L.toArray := own_holds (enc := id) hz hO
    have eg : ∀ args w, (callFunc 58 args).run Tryz.prog w = .ok (.enter 58 args) w := enters_of Tryz.func58 (by kernel_rfl) rfl
    have hcmp : CmpLays Tryz.prog 58 #[] rnV 2 (fun x y => cmpX x.1 y.1) g 0 L.toArray.size W := fun _ _ _ _ x y => lowest1_anyX x.1 x.2 y.1 y.2 _
    have q := AnyQ.slices_SortFunc Tryz.laysSlF06_f57 2 Tryz.isAgg47 Tryz.sizeOf47 rnV (fun _ => rfl) (fun x v hv => by simp [rnV] at hv; rcases hv with rfl | rfl <;> rfl) (fun x y => cmpX x.1 y.1) swo_gnX 58 #[] g 0 c L.toArray W eg hcmp hH (h.lt _ rfl).2 (by rw [hs]; omega)
    change Calls Tryz.prog 57 _ _ _ at q
    rw [hs] at q
    refine q.mono ?_
    rintro e w' ⟨rfl, d', n, os, hp, hsd, rfl⟩
    have hp' := perm_of (d := L.toArray) (by rw [hs]; exact hp)
    have hl : d'.size = L.length := by have := hp.1; rw [hs] at this; exact this
    obtain ⟨r1, r2⟩ := own_sorted (enc := id) (d := Go.Sort.flatK rnV 2 d') (n := L.length) (size := 2) (by rw [Go.Sort.size_flatK, hl]) h hB n os
    refine ⟨rfl, d'.toList, hp', ?_, ?_, r2⟩
    · refine (sorted_of hl hsd).imp fun {x y} hh => ?_
      unfold ltOf at hh
      have := of_decide_eq_false hh
      rw [cmpX_lt] at this
      omega
    · unfold CapGn
      rw [hfk] at r1
      rw [Array.length_toList, hl]
      exact r1
theorem drop_nthX {L : List (Int × Int)} {k : Nat} (h : k < L.length) : L.drop k = nthX L k :: L.drop (k + 1) := by
  rw [List.drop_eq_getElem_cons h, nthX_at (List.getElem?_eq_getElem h)]
set_option maxRecDepth 100000 in
set_option maxHeartbeats 4000000 in
theorem lowest_anyX {B : Nat} (s : Int) (a : Option Addr) (c : Nat) (L : List (Int × Int)) (W : World) (h : CapGn B W a c L) (hB : B ≤ W.heap.size) (hn : L.length ≤ 1000000) (hx : ∀ x ∈ L, 0 ≤ x.1 ∧ x.1 ≤ 1000000000000 ∧ 0 ≤ x.2 ∧ x.2 ≤ 1000000000000) (hs : 0 ≤ s ∧ s ≤ 1000000000000) :
    Calls Tryz.prog 31 #[.int .i64 s, .slice a L.length c] W fun e w' => (∃ b, e = .returned (.int .i64 b) ∧ LstP L s b) ∧ Below B W w' := by
  obtain ⟨PE, hPE⟩ : ∃ Q : Ending → World → Prop, (fun e w' => (∃ b, e = .returned (.int .i64 b) ∧ LstP L s b) ∧ Below B W w') = Q := ⟨_, rfl⟩
  rw [hPE]
  have HPE := hiddenN hPE
  have SO := hiddenN (sort_gnX a c L W h hB hn)
  have HX := hiddenN hx
  obtain ⟨n, hN⟩ : ∃ n, L.length = n := ⟨_, rfl⟩
  have HN := hiddenN hN
  rw [hN] at SO hn ⊢
  clear h hPE hx hN
  go_enter Tryz.func31, Tryz.ntmps31
  go_upto_region 2 with (go_at_call 57; (with_reducible refine SO.out.mono ?_); rintro e W1 ⟨rfl, M, r1, r2, r3, r4⟩; have HP := hiddenN r1; have HS := hiddenN r2; have HC := hiddenN r3; have HB := hiddenN r4; clear r1 r2 r3 r4)
  have HMl : Hid (M.length = n) := by show _ = _; rw [HP.out.length_eq]; exact HN.out
  have HMx : Hid (∀ x ∈ M, 0 ≤ x.1 ∧ x.1 ≤ 1000000000000 ∧ 0 ≤ x.2 ∧ x.2 ≤ 1000000000000) := fun x hx => HX.out x (HP.out.mem_iff.1 hx)
  have HLs : Hid (LstP L s (upP s 0 M)) := (upP_lst (fun x hx => ⟨(HMx.out x hx).1, (HMx.out x hx).2.2.1⟩) HS.out).like fun c => fre_like fun x _ => HP.out.mem_iff
  have HAt := hiddenN HC.out.at
  have hB1 : B ≤ W1.heap.size := Nat.le_trans hB HB.out.size
  have GX := hiddenN (blkA_new 47 W1 #[.int .i64 0, .int .i64 s])
  have BX : Hid (Below W1.heap.size W1 (W1.alloc (.cells #[.int .i64 0, .int .i64 s] 47))) := (Below.refl _ _).alloc (Nat.le_refl _) _
  clear HC SO HP HS HX
  go_upto_region 3 with fail
  generalize W1.alloc (.cells #[.int .i64 0, .int .i64 s] 47) = W2 at *
  obtain ⟨bx, hbx⟩ : ∃ q, W1.heap.size = q := ⟨_, rfl⟩
  rw [hbx] at GX BX hB1 ⊢
  have HBX := hiddenN hbx
  clear hbx
  go_wp2
  go_loopg [14] n (fun gk u wr => ∃ (k : Nat) (b : Int), k ≤ n ∧ gk = n - k ∧ u = .int .i64 (k : Int) ∧ BlkA 47 bx wr #[.int .i64 b, .int .i64 s] ∧ Below bx W1 wr ∧ upP s b (M.drop k) = upP s 0 M ∧ 0 ≤ b ∧ b ≤ 2000000000000)
  case atStart => exact ⟨0, 0, Nat.zero_le _, rfl, rfl, GX.out, BX.out, by rw [List.drop_zero], Int.le_refl _, by decide⟩
  case round =>
    clear GX BX
    obtain ⟨k, b, hk, rfl, rfl, hG, hW, hu, hb0, hb1⟩ := hrel
    have HG := hiddenN hG
    have HW := hiddenN hW
    have HU := hiddenN hu
    clear hG hW hu
    by_cases hlt : k < n
    · have hki : (k : Int) < (n : Int) := by omega
      have hkM : k < M.length := by rw [HMl.out]; exact hlt
      rcases HAt.out.below (by rw [HBX.out]; exact HW.out) with e1 | ⟨ab, off, rfl, hc⟩
      · rw [e1] at hkM; exact absurd hkM (Nat.not_lt_zero _)
      obtain ⟨c0, c1⟩ := hc k hkM
      have DR := hiddenN (drop_nthX hkM)
      have hmx := HMx.out (nthX M k) (by rw [nthX_at (List.getElem?_eq_getElem hkM)]; exact List.getElem_mem hkM)
      obtain ⟨x, hx⟩ : ∃ x, nthX M k = x := ⟨_, rfl⟩
      rw [hx] at c0 c1 DR hmx
      obtain ⟨x1, x2⟩ := x
      simp only at c0 c1 hmx
      have HUn : Hid (upP s (if shrI (b, s) (x1, x2) = true then x1 + x2 else b) (M.drop (k + 1)) = upP s 0 M) := by
        have q := HU.out
        rw [DR.out, upP] at q
        exact q
      have w1 : IntKind.i64.wrap (b + s) = b + s := by rw [IntKind.wrap_i64]; omega
      have w2 : IntKind.i64.wrap (x1 + x2) = x1 + x2 := by rw [IntKind.wrap_i64]; omega
      have hbw : bx < wr.heap.size := HG.out.lt
      have Gx := hiddenN (blkA_new 47 wr #[.int .i64 x1, .int .i64 x2])
      have Bx : Hid (Below wr.heap.size wr (wr.alloc (.cells #[.int .i64 x1, .int .i64 x2] 47))) := (Below.refl _ _).alloc (Nat.le_refl _) _
      have HG2 := hiddenN (HG.out.below Bx.out)
      have HW2 := hiddenN (HW.out.trans (Bx.out.mono (Nat.le_of_lt hbw)))
      clear hc hkM hx DR HU HG HW
      go_upto_region 6 with fail
      generalize wr.alloc (.cells #[.int .i64 x1, .int .i64 x2] 47) = W3 at *
      have z0 := HG2.out.cell (k := 0) rfl
      have z1 := HG2.out.cell (k := 1) rfl
      have y0 := Gx.out.cell (k := 0) rfl
      have y1 := Gx.out.cell (k := 1) rfl
      simp only [List.getElem_toArray, List.getElem_cons_zero, List.getElem_cons_succ] at z0 z1 y0 y1
      have SH := hiddenN (share_anyX b s x1 x2 w1 w2 W3)
      have EN : Hid (∀ U, Calls Tryz.prog 59 #[.agg #[.int .i64 x1, .int .i64 x2]] U fun e w' => e = .returned (.int .i64 (x1 + x2)) ∧ ∃ q os, w' = Go.Sort.grow (U.drewN q) os) := fun U => end_anyX x1 x2 w2 U
      have hxy : 0 ≤ x1 + x2 ∧ x1 + x2 ≤ 2000000000000 := by omega
      generalize x1 + x2 = y at *
      generalize shrI (b, s) (x1, x2) = r at *
      clear w1 w2 hmx
      cases r with
      | true =>
        have HUt : Hid (upP s y (M.drop (k + 1)) = upP s 0 M) := by have q := HUn.out; rw [if_pos rfl] at q; exact q
        clear HUn
        go_upto_region 7 with (go_at_call 40; (with_reducible refine SH.out.mono ?_); rintro e W4 ⟨rfl, hg⟩; have b4 := hiddenN (grn_below hg (Nat.le_refl W3.heap.size)); clear hg)
        have HG4 := hiddenN (HG2.out.below b4.out)
        have Gx4 := hiddenN (Gx.out.below b4.out)
        have HW4 := hiddenN (HW2.out.trans (b4.out.mono (Nat.le_of_lt HG2.out.lt)))
        have u0 := Gx4.out.cell (k := 0) rfl
        have u1 := Gx4.out.cell (k := 1) rfl
        simp only [List.getElem_toArray, List.getElem_cons_zero, List.getElem_cons_succ] at u0 u1
        clear z0 z1 y0 y1 SH
        go_upto_region 8 with (go_at_call 59; (with_reducible refine (EN.out _).mono ?_); rintro e W5 ⟨rfl, hg⟩; have b5 := hiddenN (grn_below hg (Nat.le_refl W4.heap.size)); clear hg; have HG5 := hiddenN (HG4.out.below b5.out); have t0 := HG5.out.cell (k := 0) rfl; have f0 := HG5.out.frozen 0; simp only [List.getElem_toArray, List.getElem_cons_zero] at t0)
        have HG6 := hiddenN (HG5.out.set 0 (.int .i64 y))
        have HW6 := hiddenN ((HW4.out.trans (b5.out.mono (Nat.le_of_lt HG4.out.lt))).setCell (p := ⟨bx, 0, none⟩) (Nat.le_refl _) (.int .i64 y))
        clear u0 u1
        go_wp2
        go_roundg (n - (k + 1))
        case measure => omega
        case rel => exact ⟨k + 1, y, by omega, rfl, by go_num, HG6.out, HW6.out, HUt.out, hxy.1, hxy.2⟩
      | false =>
        have HUt : Hid (upP s b (M.drop (k + 1)) = upP s 0 M) := by have q := HUn.out; rw [if_neg (by decide)] at q; exact q
        clear HUn EN
        go_wp2_with (go_at_call 40; (with_reducible refine SH.out.mono ?_); rintro e W4 ⟨rfl, hg⟩; have b4 := hiddenN (grn_below hg (Nat.le_refl W3.heap.size)); clear hg)
        go_roundg (n - (k + 1))
        case measure => omega
        case rel => exact ⟨k + 1, b, by omega, rfl, by go_num, HG2.out.below b4.out, HW2.out.trans (b4.out.mono (Nat.le_of_lt HG2.out.lt)), HUt.out, hb0, hb1⟩
    · have hki : ¬ (k : Int) < (n : Int) := by omega
      have hb : Hid (b = upP s 0 M) := by
        have q := HU.out
        rw [List.drop_eq_nil_of_le (by rw [HMl.out]; omega)] at q
        exact q
      have z0 := HG.out.cell (k := 0) rfl
      simp only [List.getElem_toArray, List.getElem_cons_zero] at z0
      go_wp2
      rw [← HPE.out]
      exact ⟨⟨b, rfl, by rw [hb.out]; exact HLs.out⟩, HB.out.trans (HW.out.mono hB1)⟩
def celF (m : Int) (L : List (Int × Int)) : Int := L.foldl (fun m x => max m (x.1 + x.2)) m
set_option maxRecDepth 100000 in
set_option maxHeartbeats 2000000 in
theorem cells_anyX (a : Option Addr) (c n : Nat) (L : List (Int × Int)) (W : World) (h : AtGn W a L) (hN : L.length = n) (hn : n ≤ 1000000) (hx : ∀ x ∈ L, IntKind.i64.wrap (x.1 + x.2) = x.1 + x.2) :
    Calls Tryz.prog 33 #[.slice a n c] W fun e w' => e = .returned (.int .i64 (celP L)) ∧ ∃ q os, w' = Go.Sort.grow (W.drewN q) os := by
  obtain ⟨PE, hPE⟩ : ∃ Q : Ending → World → Prop, (fun e w' => e = .returned (.int .i64 (celP L)) ∧ ∃ q os, w' = Go.Sort.grow (W.drewN q) os) = Q := ⟨_, rfl⟩
  rw [hPE]
  have HPE := hiddenN hPE
  have H := hiddenN h
  have HX := hiddenN hx
  have HN := hiddenN hN
  clear hPE h hx hN
  go_enter Tryz.func33, Tryz.ntmps33
  go_wp2
  go_loopg [3, 8] n (fun gk u3 u8 wr => ∃ (k : Nat) (M : Int), k ≤ n ∧ gk = n - k ∧ u8 = .int .i64 (k : Int) ∧ u3 = .int .i64 M ∧ celF M (L.drop k) = celP L ∧ ∃ q os, wr = Go.Sort.grow (W.drewN q) os)
  case atStart => exact ⟨0, 0, Nat.zero_le _, rfl, rfl, rfl, by rw [List.drop_zero]; rfl, 0, #[], by rw [Go.Sort.grow_empty]; rfl⟩
  case round =>
    obtain ⟨k, M, hk, rfl, rfl, rfl, hM, hW⟩ := hrel
    have HM := hiddenN hM
    have HW := hiddenN hW
    clear hM hW
    by_cases hlt : k < n
    · have hki : (k : Int) < (n : Int) := by omega
      have hkM : k < L.length := by rw [HN.out]; exact hlt
      rcases H.out.below (grn_below HW.out (Nat.le_refl _)) with e1 | ⟨ab, off, rfl, hc⟩
      · rw [e1] at hkM; exact absurd hkM (Nat.not_lt_zero _)
      obtain ⟨c0, c1⟩ := hc k hkM
      have DR := hiddenN (drop_nthX hkM)
      have hmx := HX.out (nthX L k) (by rw [nthX_at (List.getElem?_eq_getElem hkM)]; exact List.getElem_mem hkM)
      obtain ⟨x, hx⟩ : ∃ x, nthX L k = x := ⟨_, rfl⟩
      rw [hx] at c0 c1 DR hmx
      obtain ⟨x1, x2⟩ := x
      simp only at c0 c1 hmx
      have HMn : Hid (celF (max M (x1 + x2)) (L.drop (k + 1)) = celP L) := by
        have q := HM.out
        rw [DR.out] at q
        exact q
      have Gx := hiddenN (blkA_new 47 wr #[.int .i64 x1, .int .i64 x2])
      have EN : Hid (∀ U, Calls Tryz.prog 59 #[.agg #[.int .i64 x1, .int .i64 x2]] U fun e w' => e = .returned (.int .i64 (x1 + x2)) ∧ ∃ q os, w' = Go.Sort.grow (U.drewN q) os) := fun U => end_anyX x1 x2 hmx U
      have HW2 : Hid (∃ q os, wr.alloc (.cells #[.int .i64 x1, .int .i64 x2] 47) = Go.Sort.grow (W.drewN q) os) := by
        obtain ⟨q, os, e⟩ := HW.out
        exact ⟨q, os ++ #[.cells #[.int .i64 x1, .int .i64 x2] 47], by rw [Go.Sort.alloc_eq_grow, e, Go.Sort.grow_grow]⟩
      generalize x1 + x2 = y at *
      clear hc hkM hx DR HM hmx HW
      go_upto_region 5 with fail
      generalize wr.alloc (.cells #[.int .i64 x1, .int .i64 x2] 47) = W3 at *
      have y0 := Gx.out.cell (k := 0) rfl
      have y1 := Gx.out.cell (k := 1) rfl
      simp only [List.getElem_toArray, List.getElem_cons_zero, List.getElem_cons_succ] at y0 y1
      go_wp2_with (go_at_call 59; (with_reducible refine (EN.out _).mono ?_); rintro e W4 ⟨rfl, hg⟩; have HG := hiddenN hg; clear hg)
      go_roundg (n - (k + 1))
      case measure => omega
      case rel => exact ⟨k + 1, _, by omega, rfl, by go_num, rfl, HMn.out, by
        obtain ⟨q, os, e⟩ := HW2.out
        obtain ⟨q', os', e'⟩ := HG.out
        exact ⟨q + q', os ++ os', by rw [e', e]; show Go.Sort.grow (Go.Sort.grow ((W.drewN q).drewN q') os) os' = _; rw [Go.Sort.grow_grow, World.drewN_drewN]⟩⟩
    · have hki : ¬ (k : Int) < (n : Int) := by omega
      have hb : Hid (M = celP L) := by
        have q := HM.out
        rw [List.drop_eq_nil_of_le (by rw [HN.out]; omega)] at q
        exact q
      go_wp2
      rw [← HPE.out]
      exact ⟨by rw [← hb.out], HW.out⟩
set_option maxRecDepth 100000 in
theorem inMemory_anyX (x : Int) (W : World) : Calls Tryz.prog 61 #[.int .i64 x] W fun e w' => e = .returned (.bool (decide (0 ≤ x) && decide (x ≤ 1024))) ∧ w' = W := by
  by_cases h : 0 ≤ x
  · have h1 : x ≥ 0 := h
    by_cases h2 : x ≤ 1024
    · have e : (decide (0 ≤ x) && decide (x ≤ 1024)) = true := by rw [decide_eq_true h, decide_eq_true h2]; rfl
      rw [e]
      go_enter Tryz.func61, Tryz.ntmps61
      go_wp2
      go_ret
      exact ⟨rfl, rfl⟩
    · have e : (decide (0 ≤ x) && decide (x ≤ 1024)) = false := by rw [decide_eq_false h2, Bool.and_false]
      rw [e]
      go_enter Tryz.func61, Tryz.ntmps61
      go_wp2
      go_ret
      exact ⟨rfl, rfl⟩
  · have h1 : ¬ x ≥ 0 := h
    have e : (decide (0 ≤ x) && decide (x ≤ 1024)) = false := by rw [decide_eq_false h, Bool.false_and]
    rw [e]
    go_enter Tryz.func61, Tryz.ntmps61
    go_wp2
    go_ret
    exact ⟨rfl, rfl⟩
end Go.Proofs.YtimioiaoefhabaaGreat
