/- Texts of one chain, laid one behind the other. -/
import Derived.Test.YtdgngmhapehldaaPartStuckLess17
import Derived.Test.YtdgngmhapehldaaPartStuckLess18
namespace Go.Proofs.Ytdgngmhapehldaa
open Go.ChangeShapes Go.WideShapes Go.ChangeAt Go.RowKit
/- Firing one node; the equation and the blocks go on. -/
theorem fire1K {B E K : Nat} {n : NN} {T F : List Int} (U : World) (h : StE B E U K n T F) (v : Int) :
    Calls Try.prog 15 #[.pointer (some ⟨K, 0, none⟩), .slice (some ⟨U.heap.size, 0, none⟩) 1 1] (U.alloc (.cells #[.int .i64 v] 3)) fun e w' => (∃ x, e = .returned x) ∧ StE B E w' K n (firesN n [v] T F).2.1 (firesN n [v] T F).2.2 ∧ Mid B E U w' := by
  have ba := (Below.refl U.heap.size U).alloc (Nat.le_refl _) (.cells #[.int .i64 v] 3)
  have hlow := h.low
  have r := fires_any (U.alloc (.cells #[.int .i64 v] 3)) K n T F (h.below ba) (some ⟨U.heap.size, 0, none⟩) 1 [v] (at_alloc1 U v) (by simp) (fun x hx _ => by cases hx; exact .inr hlow.2)
  refine r.mono ?_
  rintro e w' ⟨h1, h2, h3⟩
  exact ⟨⟨_, h1⟩, h2, (Mid.of_below ba).trans h3⟩
theorem fire1_eq {n : NN} {T F : List Int} {m : Int} (hS : SoundN n) (h : EqN n m T F) (hm : m ≤ 1125899906842624) (v : Int) : EqN n (m + 1) (firesN n [v] T F).2.1 (firesN n [v] T F).2.2 := by
  rw [fires_one]
  by_cases hv : mayN n T v = true
  · rw [if_pos hv]; exact fire_eqL hS h hm hv
  · rw [if_neg hv]; exact h.more (by omega)
theorem fire1_hold {n : NN} {L : List BK} {T F : List Int} {m : Int} (hz : conK n L = 0) (h : EqN n m T F) (hm : m ≤ 1125899906842624) (hH : HoldK L F) (v : Int) : HoldK L (firesN n [v] T F).2.2 := by
  rw [fires_one]
  by_cases hv : mayN n T v = true
  · rw [if_pos hv]; exact hold_step hz h hm hH hv
  · rw [if_neg hv]; exact hH
set_option maxRecDepth 100000 in
set_option maxHeartbeats 16000000 in
theorem stuckLess_walk (n : NN) (a : Option Addr) (c : Nat) (la : Option Addr) (len cap : Nat) (L : List BK) (ra : Option Addr) (rlen rcap : Nat) (zs : List Int) (w : World) (h : ArgN w a c n) (hk : ArgK w la len cap L) (hz : Arg w ra rlen rcap zs) : Calls Try.prog 5 #[.agg #[.int .i64 n.nodes, .slice a n.arcs.length c], .slice la len cap, .slice ra rlen rcap] w fun e w' => e = .returned (.bool true) ∧ Below w.heap.size w w' := by
  have b0 := (Below.refl w.heap.size w).alloc (Nat.le_refl _) (.cells #[.int .i64 n.nodes, .slice a n.arcs.length c] 24)
  have G0 := hiddenN (blkA_new 24 w #[.int .i64 n.nodes, .slice a n.arcs.length c])
  have B0 := hiddenN b0
  have AW : Hid (∀ U, Calls Try.prog 13 #[] U fun e w' => e = .returned (.bool true) ∧ Below U.heap.size U w') := fun U => awake14 U
  have z0 := G0.out.cell (k := 0) rfl
  have z1 := G0.out.cell (k := 1) rfl
  simp only [List.getElem_toArray, List.getElem_cons_zero, List.getElem_cons_succ] at z0 z1
  clear b0
  have CF : Hid (∀ U, Below w.heap.size w U → Calls Try.prog 9 #[.agg #[.int .i64 n.nodes, .slice a n.arcs.length c], .slice la len cap] U (ConE U (conK n L))) := fun U hb => confirm_any n a c L la len cap U (h.lies.below hb) (by have := h.room; omega) hk.len (by have := hk.room; have := hk.len; omega) (hk.lies.below hb) hk.ins
  have hK := hiddenN hk
  have hZ := hiddenN hz
  have hrl : (rlen : Int) ≤ 1125899906842000 := by have := hz.reach; omega
  have hlenI : (len : Int) ≤ 1125899906842000 := by have := hk.room; have := hk.len; omega
  by_cases hc0 : checkN n = 0
  · have NY : Hid (∀ U, Below w.heap.size w U → Calls Try.prog 14 #[.agg #[.int .i64 n.nodes, .slice a n.arcs.length c]] U fun e w' => ∃ K E, e = .returned (.tuple #[.pointer (some ⟨K, 0, none⟩), .int .i64 0]) ∧ StE U.heap.size E w' K n (startT n) (List.replicate n.nodes.toNat 0) ∧ Below U.heap.size U w') := fun U hb => new_yes n a c w h hc0 U hb
    have HC := hiddenN hc0
    have HS := hiddenN (check_sound hc0)
    have E0 := hiddenN (start_eq (check_sound hc0) rfl : EqN n 0 (startT n) (List.replicate n.nodes.toNat 0))
    have H0 : Hid (conK n L = 0 → HoldK L (List.replicate n.nodes.toNat 0)) := fun hc => hold_start hc
    clear h hk hz hc0
    generalize startT n = T0 at *
    generalize List.replicate n.nodes.toNat (0 : Int) = F0 at *
    go_enter Try.func5, Try.ntmps5
    go_upto_region 1 with fail
    generalize w.alloc (.cells #[.int .i64 n.nodes, .slice a n.arcs.length c] 24) = W0 at *
    go_upto_region 6 with (go_at_call 14; (with_reducible refine (NY.out _ B0.out).mono ?_); rintro e W1 ⟨K, E, rfl, s1, b1⟩; have S1 := hiddenN s1; have L1 := hiddenN (B0.out.trans (b1.mono B0.out.size)); have G1 := hiddenN (G0.out.below b1); clear s1 b1)
    have hBB : w.heap.size ≤ W0.heap.size := B0.out.size
    have hgB : w.heap.size < W0.heap.size := G0.out.lt
    obtain ⟨B, hB⟩ : ∃ B, W0.heap.size = B := ⟨_, rfl⟩
    rw [hB] at S1 hBB hgB
    clear hB NY G0 z0 z1 B0
    go_wp2
    go_loopg [9] rlen (fun gk v9 wr => ∃ (k : Nat) (T F : List Int), k ≤ rlen ∧ gk = rlen - k ∧ v9 = .int .i64 (k : Int) ∧ StE B E wr K n T F ∧ EqN n (k : Int) T F ∧ (conK n L = 0 → HoldK L F) ∧ BlkA 24 w.heap.size wr #[.int .i64 n.nodes, .slice a n.arcs.length c] ∧ Below w.heap.size w wr)
    case atStart => exact ⟨0, T0, F0, Nat.zero_le _, rfl, rfl, S1.out, E0.out, H0.out, G1.out, L1.out⟩
    case round =>
      clear S1 E0 H0 L1 G1
      obtain ⟨k, T, F, hk, rfl, rfl, hSt, hEq, hHo, hG, hB⟩ := hrel
      have ST := hiddenN hSt
      have EQ := hiddenN hEq
      have HO := hiddenN hHo
      have GX := hiddenN hG
      have BW := hiddenN hB
      clear hSt hEq hHo hB hG
      by_cases hlt : k < rlen
      · have hki : (k : Int) < (rlen : Int) := by omega
        have hzl := hZ.out.size
        rcases (hZ.out.lies.below BW.out) with e | ⟨yb, yo, ea, hcc⟩
        · rw [e] at hzl; simp at hzl; omega
        have c0 := hcc k (by omega)
        subst ea
        clear hcc
        generalize nth zs k = x at *
        have F1 := hiddenN (fire1K wr ST.out x)
        have E1 := hiddenN (fire1_eq HS.out EQ.out (by omega) x)
        have H1 : Hid (conK n L = 0 → HoldK L (firesN n [x] T F).2.2) := fun hc => fire1_hold hc EQ.out (by omega) (HO.out hc) x
        have hlow := ST.out.low.1
        generalize (firesN n [x] T F).2.1 = T' at *
        generalize (firesN n [x] T F).2.2 = F' at *
        clear EQ HO hzl
        go_wp2_with (go_at_call 15; (with_reducible refine F1.out.mono ?_); rintro e W3 ⟨⟨xr, rfl⟩, s3, m3⟩; have S3 := hiddenN s3; have V3 := hiddenN (BW.out.trans ((m3.below hlow).mono hBB)); have G3 := hiddenN (GX.out.keep (m3.block _ GX.out.lt (.inl hgB))); clear s3 m3)
        go_roundg (rlen - (k + 1))
        case measure => omega
        case rel => exact ⟨k + 1, T', F', by omega, rfl, by go_num, S3.out, E1.out, H1.out, G3.out, V3.out⟩
      · have ek : rlen = k := by omega
        subst ek
        have hkk : ¬ (rlen : Int) < (rlen : Int) := by omega
        obtain ⟨N, hN⟩ : ∃ N, F.length = N := ⟨_, rfl⟩
        have FD : Hid (Calls Try.prog 16 #[.pointer (some ⟨K, 0, none⟩)] wr fun e w' => ∃ a7 c7, e = .returned (.slice a7 N c7) ∧ At w' a7 F ∧ Below wr.heap.size wr w') := (fired_any wr K n T F ST.out).mono fun e w' hh => by
          obtain ⟨a7, c7, h1, h2, h3⟩ := hh
          exact ⟨a7, c7, by rw [← hN]; exact h1, h2.at, h3⟩
        have HFL := hiddenN hN
        clear hN ST EQ
        go_upto_region 11 with (go_at_call 16; (with_reducible refine FD.out.mono ?_); rintro e W4 ⟨a7, c7, rfl, h7, b7⟩; have A7 := hiddenN h7; have G4 := hiddenN (GX.out.below b7); have V4 := hiddenN (BW.out.trans (b7.mono BW.out.size)); clear h7 b7)
        clear FD GX BW
        go_wp2
        go_loopg [11] len (fun gk v11 wr => ∃ j : Nat, j ≤ len ∧ gk = len - j ∧ v11 = .int .i64 (j : Int) ∧ At wr a7 F ∧ BlkA 24 w.heap.size wr #[.int .i64 n.nodes, .slice a n.arcs.length c] ∧ Below w.heap.size w wr)
        case atStart => exact ⟨0, Nat.zero_le _, rfl, rfl, A7.out, G4.out, V4.out⟩
        case round =>
          clear A7 G4 V4
          obtain ⟨j, hj, rfl, rfl, hA7, hG4, hV4⟩ := hrel
          have A7 := hiddenN hA7
          have GX := hiddenN hG4
          have V4 := hiddenN hV4
          clear hA7 hG4 hV4
          by_cases hjl : j < len
          · have hji : (j : Int) < (len : Int) := by omega
            have hkl := hK.out.len
            rcases (hK.out.lies.below V4.out) with e | ⟨lb, lo, ea, hcc⟩
            · rw [e] at hkl; simp at hkl; omega
            obtain ⟨d0, d1, d2⟩ := hcc j (by omega)
            subst ea
            have MEM := hiddenN (nthBk_mem (L := L) (i := j) (by omega))
            clear hcc hkl
            generalize nthBk L j = b at *
            obtain ⟨bn, bf, ba⟩ := b
            simp only at d0 d1 d2
            by_cases hv0 : 0 ≤ bn
            · obtain ⟨v, rfl⟩ : ∃ v : Nat, bn = (v : Int) := ⟨bn.toNat, by omega⟩
              clear hv0
              by_cases hvN : v < N
              · have hvI : (v : Int) < (N : Int) := by omega
                have hx := HFL.out
                rcases A7.out with e | ⟨fb, fo, ea, hcf⟩
                · rw [e] at hx; simp at hx; omega
                have f0 := hcf v (by omega)
                subst ea
                clear hcf hx
                obtain ⟨y, hy⟩ : ∃ y, nth F v = y := ⟨_, rfl⟩
                rw [hy] at f0
                have HY := hiddenN hy
                clear hy
                cases hdd : decide (bf < y) with
                | false =>
                  clear MEM
                  go_wp2
                  go_quiet (fail)
                  go_wp2
                  go_roundg (len - (j + 1))
                  case measure => omega
                  case rel => exact ⟨j + 1, by omega, rfl, by go_num, A7.out.below (drewB (Below.refl _ _) _), GX.out.below (drewB (Below.refl _ _) _), drewB V4.out _⟩
                | true =>
                  have CC : Hid (conK n L = 140 ∨ conK n L = 141) := con_less HC.out HO.out MEM.out (by show bf < nth F ((v : Int)).toNat; rw [Int.toNat_natCast, HY.out]; exact of_decide_eq_true hdd)
                  have y0 := GX.out.cell (k := 0) rfl
                  have y1 := GX.out.cell (k := 1) rfl
                  simp only [List.getElem_toArray, List.getElem_cons_zero, List.getElem_cons_succ] at y0 y1
                  clear HY HO MEM
                  rcases CC.out with e | e
                  · rw [e] at CF
                    clear CC e
                    go_wp2
                    go_quiet (fail)
                    go_wp2_with (first
                      | (go_at_call 9; (with_reducible refine (CF.out _ (drewB V4.out _)).mono ?_); rintro e w5 ⟨rfl, b5⟩; have LZ := hiddenN ((drewB V4.out _).trans (b5.mono (drewB V4.out _).size)); clear b5)
                      | (go_at_call 13; (with_reducible refine (AW.out _).mono ?_); rintro e w9 ⟨rfl, b9⟩; have L9 := hiddenN (LZ.out.trans (b9.mono LZ.out.size)); clear b9))
                    go_ret
                    exact ⟨by first | rfl | simp, L9.out⟩
                  · rw [e] at CF
                    clear CC e
                    go_wp2
                    go_quiet (fail)
                    go_wp2_with (first
                      | (go_at_call 9; (with_reducible refine (CF.out _ (drewB V4.out _)).mono ?_); rintro e w5 ⟨rfl, b5⟩; have LZ := hiddenN ((drewB V4.out _).trans (b5.mono (drewB V4.out _).size)); clear b5)
                      | (go_at_call 13; (with_reducible refine (AW.out _).mono ?_); rintro e w9 ⟨rfl, b9⟩; have L9 := hiddenN (LZ.out.trans (b9.mono LZ.out.size)); clear b9))
                    go_ret
                    exact ⟨by first | rfl | simp, L9.out⟩
              · have hvI : ¬ (v : Int) < (N : Int) := by omega
                go_wp2
                go_quiet (fail)
                go_wp2
                go_roundg (len - (j + 1))
                case measure => omega
                case rel => exact ⟨j + 1, by omega, rfl, by go_num, A7.out.below (drewB (Below.refl _ _) _), GX.out.below (drewB (Below.refl _ _) _), drewB V4.out _⟩
            · have hn0 : decide (0 ≤ bn) = false := decide_eq_false hv0
              clear hv0
              go_wp2
              go_quiet (fail)
              go_wp2
              go_roundg (len - (j + 1))
              case measure => omega
              case rel => exact ⟨j + 1, by omega, rfl, by go_num, A7.out.below (drewB (Below.refl _ _) _), GX.out.below (drewB (Below.refl _ _) _), drewB V4.out _⟩
          · have ej : len = j := by omega
            subst ej
            have hjj : ¬ (len : Int) < (len : Int) := by omega
            have LZ := V4
            go_wp2_with (go_at_call 13; (with_reducible refine (AW.out _).mono ?_); rintro e w9 ⟨rfl, b9⟩; have L9 := hiddenN (LZ.out.trans (b9.mono LZ.out.size)); clear b9)
            go_ret
            exact ⟨by first | rfl | simp, L9.out⟩
  · have NO : Hid (∀ U, Below w.heap.size w U → Calls Try.prog 14 #[.agg #[.int .i64 n.nodes, .slice a n.arcs.length c]] U fun e w' => e = .returned (.tuple #[.pointer none, .int .i64 (checkN n)]) ∧ Below U.heap.size U w') := fun U hb => new_no n a c w h hc0 U hb
    have hcn : ((checkN n) != 0) = true := by simp; exact hc0
    rw [con_bad hc0] at CF
    have hee : (checkN n == checkN n) = true := by simp
    clear h hk hz hc0
    generalize checkN n = ce at *
    go_enter Try.func5, Try.ntmps5
    go_upto_region 1 with fail
    generalize w.alloc (.cells #[.int .i64 n.nodes, .slice a n.arcs.length c] 24) = W0 at *
    go_wp2_with (first
      | (go_at_call 14; (with_reducible refine (NO.out _ B0.out).mono ?_); rintro e W1 ⟨rfl, b1⟩; have L1 := hiddenN (B0.out.trans (b1.mono B0.out.size)); have G1 := hiddenN (G0.out.below b1); have y0 := G1.out.cell (k := 0) rfl; have y1 := G1.out.cell (k := 1) rfl; simp only [List.getElem_toArray, List.getElem_cons_zero, List.getElem_cons_succ] at y0 y1; clear b1 NO)
      | (go_at_call 9; (with_reducible refine (CF.out _ L1.out).mono ?_); rintro e w5 ⟨rfl, b5⟩; have LZ := hiddenN (L1.out.trans (b5.mono L1.out.size)); clear b5 CF)
      | (go_at_call 13; (with_reducible refine (AW.out _).mono ?_); rintro e w9 ⟨rfl, b9⟩; have L9 := hiddenN (LZ.out.trans (b9.mono LZ.out.size)); clear b9))
    go_ret
    exact ⟨by first | rfl | simp, L9.out⟩
end Go.Proofs.Ytdgngmhapehldaa
