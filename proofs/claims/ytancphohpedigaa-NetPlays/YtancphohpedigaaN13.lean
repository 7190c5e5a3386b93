/- The walk of NetStays. (Written by tmpl/mkN13.py.) -/
import Derived.Test.YtancphohpedigaaN12
namespace Go.Proofs.Ytancphohpedigaa
open Go.ChangeShapes Go.WideShapes Go.ChangeAt Go.RowKit

theorem StE.bel {B E Q : Nat} {w w' : World} {K : Nat} {n : NN} {T F : List Int} (h : StE B E w K n T F) (hb : Below Q w w') (hQ : E ≤ Q) : StE B E w' K n T F := h.keep (fun k _ h2 => hb.block k (by omega)) hb.size
theorem nth_snoc {M : List Int} {x : Int} {P : Int → Prop} (h : ∀ i, i < M.length → P (nth M i)) (hx : P x) : ∀ i, i < (M ++ [x]).length → P (nth (M ++ [x]) i) := by
  intro i hi
  rw [List.length_append] at hi
  by_cases e : i < M.length
  · rw [nth_append_left e]; exact h i e
  · have e2 : i = M.length := by simp at hi; omega
    subst e2
    have : nth (M ++ [x]) M.length = x := by unfold nth; simp
    rw [this]; exact hx
theorem CapR.mid {Q B E : Nat} {w w' : World} {d : Option Addr} {c : Nat} {M : List Int} (h : CapR Q w d c M) (hm : Mid B E w w') (hQ : E ≤ Q) : CapR Q w' d c M := h.keep fun x hx => hm.block _ (h.lt x hx).2 (.inr (by have := (h.lt x hx).1; omega))

set_option maxRecDepth 100000 in
set_option maxHeartbeats 16000000 in
theorem netStays_walk (n : NN) (a : Option Addr) (c : Nat) (a1 : Option Addr) (len1 cap1 : Nat) (zs : List Int) (a2 : Option Addr) (len2 cap2 : Nat) (ys : List Int) (w : World) (h : ArgN w a c n) (h1 : Arg w a1 len1 cap1 zs) (h2 : Arg w a2 len2 cap2 ys) : Calls Try.prog 8 #[.agg #[.int .i64 n.nodes, .slice a n.arcs.length c], .slice a1 len1 cap1, .slice a2 len2 cap2] w fun e w' => e = .returned (.bool true) ∧ Below w.heap.size w w' := by
  have b0 := (Below.refl w.heap.size w).alloc (Nat.le_refl _) (.cells #[.int .i64 n.nodes, .slice a n.arcs.length c] 24)
  have G0 := hiddenN (blkA_new 24 w #[.int .i64 n.nodes, .slice a n.arcs.length c])
  have B0 := hiddenN b0
  have AW : Hid (∀ U, Calls Try.prog 14 #[] U fun e w' => e = .returned (.bool true) ∧ Below U.heap.size U w') := fun U => awakeN U
  have z0 := G0.out.cell (k := 0) rfl
  have z1 := G0.out.cell (k := 1) rfl
  simp only [List.getElem_toArray, List.getElem_cons_zero, List.getElem_cons_succ] at z0 z1
  clear b0
  obtain rfl := h1.size
  by_cases hc0 : checkN n = 0
  · have hS := check_sound hc0
    have NY : Hid (∀ U, Below w.heap.size w U → Calls Try.prog 12 #[.agg #[.int .i64 n.nodes, .slice a n.arcs.length c]] U fun e w' => ∃ K E, e = .returned (.tuple #[.pointer (some ⟨K, 0, none⟩), .int .i64 0]) ∧ StE U.heap.size E w' K n (startT n) (List.replicate n.nodes.toNat 0) ∧ Below U.heap.size U w') := fun U hb => new_yes n a c w h hc0 U hb
    have H1 := hiddenN h1
    have H2 := hiddenN h2
    have hfew := fires_few hS zs (startT n) (List.replicate n.nodes.toNat 0) 256 (start_few hS rfl) (by have := h1.reach; omega)
    have hfb : 256 + 64 * (zs.length : Int) + 64 * (len2 : Int) + 128 ≤ 4611686018427387904 := by have := h1.reach; have := h2.reach; omega
    have hlen : zs.length ≤ 4611686018427387904 := by have := h1.reach; omega
    have hlen2 : len2 ≤ 4611686018427387904 := by have := h2.reach; omega
    have hnn := nodes_nat hS
    have HSN := hiddenN hS
    clear h1 h2 h hS hc0
    generalize startT n = T0 at *
    generalize List.replicate n.nodes.toNat (0 : Int) = F0 at *
    go_enter Try.func8, Try.ntmps8
    go_upto_region 1 with fail
    generalize w.alloc (.cells #[.int .i64 n.nodes, .slice a n.arcs.length c] 24) = W0 at *
    go_upto_region 6 with (go_at_call 12; (with_reducible refine (NY.out _ B0.out).mono ?_); rintro e W1 ⟨K, E, rfl, s1, b1⟩; have S1 := hiddenN s1; have L1 := hiddenN (B0.out.trans (b1.mono B0.out.size)); have G1 := hiddenN (G0.out.below b1); clear s1 b1 z0 z1)
    have hw0 := B0.out.size
    obtain ⟨B, hB⟩ : ∃ B, W0.heap.size = B := ⟨_, rfl⟩
    rw [hB] at S1
    have hBB : w.heap.size ≤ B := by rw [← hB]; exact hw0
    have hgb : w.heap.size < B := by rw [← hB]; exact G0.out.lt
    have hl1 := S1.out.low.1
    have F1 := hiddenN (fires_any W1 K n T0 F0 S1.out a1 cap1 zs (H1.out.lies.below L1.out) hlen (fun x hx hne => .inl (by have := at_lt H1.out.lies hne hx; omega)))
    obtain ⟨r, hr⟩ : ∃ r, firesN n zs T0 F0 = r := ⟨_, rfl⟩
    rw [hr] at F1 hfew
    clear hr S1 G0 NY B0 hB hw0
    obtain ⟨T, hT⟩ : ∃ T, r.2.1 = T := ⟨_, rfl⟩
    obtain ⟨F, hF⟩ : ∃ F, r.2.2 = F := ⟨_, rfl⟩
    rw [hT] at F1 hfew
    rw [hF] at F1
    have HFE := hiddenN hfew
    clear hT hF hfew
    generalize r.1 = rn at *
    go_upto_region 8 with (go_at_call 20; (with_reducible refine F1.out.mono ?_); rintro e W2 ⟨rfl, s2, m2⟩; have S2 := hiddenN s2; have L2 := hiddenN (L1.out.trans ((m2.below hl1).mono hBB)); have G2 := hiddenN (G1.out.keep (m2.block _ G1.out.lt (.inl hgb))); clear s2 m2)
    clear F1 G1 L1
    obtain ⟨Q, hQ⟩ : ∃ Q, W2.heap.size = Q := ⟨_, rfl⟩
    have hEQ : E ≤ Q := by rw [← hQ]; exact S2.out.low.2
    have hgQ : w.heap.size < Q := by rw [← hQ]; exact G2.out.lt
    have hwQ : w.heap.size ≤ Q := by omega
    obtain ⟨N, hN⟩ : ∃ N, n.nodes.toNat = N := ⟨_, rfl⟩
    rw [hN] at hnn
    have hNi := hnn.1
    have hN2 := hnn.2
    clear hnn hN
    have GQ : Hid (∀ U, Below Q W2 U → U.cell? ⟨w.heap.size, 0, none⟩ = some (.int .i64 (N : Int))) := fun U hb => by
      rw [hNi]
      exact (G2.out.keep (hb.block _ hgQ)).cell rfl
    have HNI := hiddenN hNi
    clear hNi
    go_wp2
    go_loopg [9, 10] N (fun gk v9 v10 wr => ∃ (k c : Nat) (d : Option Addr) (M : List Int), k ≤ N ∧ gk = N - k ∧ v10 = .int .i64 (k : Int) ∧ v9 = .slice d M.length c ∧ M.length ≤ k ∧ (∀ i, i < M.length → mayN n T (nth M i) = true) ∧ CapR Q wr d c M ∧ StE B E wr K n T F ∧ Below Q W2 wr ∧ Below w.heap.size w wr)
    case atStart => exact ⟨0, 0, none, [], Nat.zero_le _, rfl, rfl, rfl, Nat.le_refl _, fun i hi => by simp at hi, CapR.nil _ _, S2.out, Below.refl _ _, L2.out⟩
    case round =>
      clear S2 L2 G2
      obtain ⟨k, cM, d, M, hk, rfl, rfl, rfl, hMk, hMm, hC, hSt, hbQ, hbw⟩ := hrel
      have HMM := hiddenN hMm
      have HC := hiddenN hC
      have HST := hiddenN hSt
      have HQ := hiddenN hbQ
      have HW := hiddenN hbw
      clear hMm hC hSt hbQ hbw
      have y0 := GQ.out _ HQ.out
      have hQr : Q ≤ wr.heap.size := by rw [← hQ]; exact HQ.out.size
      by_cases hlt : k < N
      · have hki : (k : Int) < (N : Int) := by omega
        have MY := hiddenN (may_any wr K n T F HST.out (k : Int))
        cases hb : mayN n T (k : Int) with
        | false =>
          rw [hb] at MY
          go_wp2_with (go_at_call 26; (with_reducible refine MY.out.mono ?_); rintro e U ⟨rfl, b1⟩; have C1 := hiddenN (HC.out.later b1); have T1 := hiddenN (HST.out.below b1); have Q1 := hiddenN (HQ.out.trans (b1.mono hQr)); have V1 := hiddenN (HW.out.trans (b1.mono HW.out.size)); clear b1)
          go_roundg (N - (k + 1))
          case measure => omega
          case rel => exact ⟨k + 1, cM, d, M, by omega, rfl, by go_num, rfl, by omega, HMM.out, C1.out, T1.out, Q1.out, V1.out⟩
        | true =>
          rw [hb] at MY
          have HX := hiddenN (nth_snoc (P := fun x => mayN n T x = true) HMM.out hb)
          go_upto_region 12 with (go_at_call 26; (with_reducible refine MY.out.mono ?_); rintro e U ⟨rfl, b1⟩; have C1 := hiddenN (HC.out.later b1); have T1 := hiddenN (HST.out.below b1); have Q1 := hiddenN (HQ.out.trans (b1.mono hQr)); have V1 := hiddenN (HW.out.trans (b1.mono HW.out.size)); have hQU : Q ≤ U.heap.size := Nat.le_trans hQr b1.size; clear b1)
          have ba := (Below.refl U.heap.size U).alloc (Nat.le_refl _) (.cells #[.int .i64 (k : Int)] 3)
          have C2 := hiddenN (C1.out.later ba)
          have AX := hiddenN (at_alloc1 U (k : Int))
          have T2 := hiddenN (T1.out.below ba)
          have Q2 := hiddenN (Q1.out.trans (ba.mono hQU))
          have V2 := hiddenN (V1.out.trans (ba.mono V1.out.size))
          have hQ2 : Q ≤ (U.alloc (.cells #[.int .i64 (k : Int)] 3)).heap.size := Nat.le_trans hQU ba.size
          clear ba
          go_wp2_with (at_builtin; refine wpList_appI rfl _ _ rfl Q d cM M rfl C2.out (some ⟨U.heap.size, 0, none⟩) 1 [(k : Int)] rfl (fun e => by cases e) AX.out (by simp; omega) hQ2 (M.length + 1) (M ++ [(k : Int)]) rfl rfl ?_; intro d3 c3 W3 hd3 b3; have C3 := hiddenN hd3; have T3 := hiddenN (T2.out.bel b3 hEQ); have Q3 := hiddenN (Q2.out.trans b3); have V3 := hiddenN (V2.out.trans (b3.mono hwQ)); clear hd3 b3)
          go_roundg (N - (k + 1))
          case measure => omega
          case rel => exact ⟨k + 1, c3, d3, M ++ [(k : Int)], by omega, rfl, by go_num, by simp, by simp; omega, HX.out, C3.out, T3.out, Q3.out, V3.out⟩
      · have ek : k = N := by omega
        subst ek
        have hki : ¬ (k : Int) < (k : Int) := by omega
        obtain ⟨wa, hwa⟩ : ∃ wa, wr = wa := ⟨_, rfl⟩
        rw [hwa] at HC HST HQ HW hQr y0 ⊢
        clear hwa
        have hM32 : M.length ≤ 32 := by omega
        go_wp2
        clear y0 GQ HQ
        go_loopg [9, 11] len2 (fun gk v9 v11 wr => ∃ (q cM : Nat) (d : Option Addr) (M T F : List Int), q ≤ len2 ∧ gk = len2 - q ∧ v11 = .int .i64 (q : Int) ∧ v9 = .slice d M.length cM ∧ M.length ≤ 32 ∧ (∀ i, i < M.length → mayN n T (nth M i) = true) ∧ CapR Q wr d cM M ∧ StE B E wr K n T F ∧ FewN n (256 + 64 * (zs.length : Int) + 64 * (q : Int)) T ∧ Q ≤ wr.heap.size ∧ Below w.heap.size w wr)
        case atStart => exact ⟨0, cM, d, M, T, F, Nat.zero_le _, rfl, rfl, rfl, hM32, HMM.out, HC.out, HST.out, HFE.out.more (by omega), hQr, HW.out⟩
        case round =>
          clear HMM HC HST HFE HW hM32 hQr
          obtain ⟨q, cM, d, M, T, F, hq, rfl, rfl, rfl, hM32, hMm, hC, hSt, hFe, hQr, hbw⟩ := hrel
          have HMM := hiddenN hMm
          have HC := hiddenN hC
          have HST := hiddenN hSt
          have HFE := hiddenN hFe
          have HW := hiddenN hbw
          clear hMm hC hSt hFe hbw
          by_cases hlt : q < len2
          · have hki : (q : Int) < (len2 : Int) := by omega
            have hys := H2.out.size
            rcases (H2.out.below HW.out).lies with e | ⟨yb, yo, ea, hc⟩
            · rw [e] at hys; simp at hys; omega
            subst ea
            have c0 := hc q (by omega)
            have F1 := hiddenN (fire1N n (nth ys q) wr HST.out)
            have R1 := fires_one n T F (nth ys q)
            have KX : Hid (∀ i, i < M.length → (nth M i = nth ys q → (firesN n [nth ys q] T F).1 = 1) ∧ (nth M i ≠ nth ys q → mayN n (firesN n [nth ys q] T F).2.1 (nth M i) = true)) := fun i hi => by
              rw [R1]
              refine ⟨fun e => ?_, fun e => ?_⟩
              · have := HMM.out i hi
                rw [e] at this
                rw [if_pos this]
              · by_cases hm : mayN n T (nth ys q) = true
                · rw [if_pos hm]; exact may_stays HSN.out HFE.out (by omega) hm (HMM.out i hi) (Ne.symm e)
                · rw [if_neg hm]; exact HMM.out i hi
            have FX : Hid (FewN n (256 + 64 * (zs.length : Int) + 64 * ((q + 1 : Nat) : Int)) (firesN n [nth ys q] T F).2.1) := by
              show FewN _ _ _
              rw [R1]
              by_cases hm : mayN n T (nth ys q) = true
              · rw [if_pos hm]; exact (fire_few HSN.out HFE.out (by omega) hm).more (by omega)
              · rw [if_neg hm]; exact HFE.out.more (by omega)
            have BY := hiddenN (fun (U : World) (hb : Below w.heap.size w U) => (H2.out.below hb).lies)
            generalize firesN n [nth ys q] T F = r at *
            clear R1 hc HMM HFE
            obtain ⟨rn, T', F'⟩ := r
            simp only at F1 KX FX
            go_upto_region 17 with (go_at_call 20; (with_reducible refine F1.out.mono ?_); rintro e W3 ⟨rfl, s3, m3⟩; have S3 := hiddenN s3; have C3 := hiddenN (HC.out.mid m3 hEQ); have V3 := hiddenN (HW.out.trans ((m3.below HST.out.low.1).mono hBB)); have hQ3 : Q ≤ W3.heap.size := Nat.le_trans hQr m3.size; clear s3 m3)
            clear F1 HST HC HW c0
            obtain ⟨R, hR⟩ : ∃ R, W3.heap.size = R := ⟨_, rfl⟩
            have hQR : Q ≤ R := by rw [← hR]; exact hQ3
            have MA : Hid (∀ U, Below R W3 U → At U d M) := fun U hb => C3.out.at.keep fun x hx => hb.block _ (by rw [← hR]; exact (C3.out.lt x hx).2)
            go_wp2
            go_loopg [13, 14] M.length (fun gk v13 v14 wr => ∃ (j cR : Nat) (dR : Option Addr) (RR : List Int), j ≤ M.length ∧ gk = M.length - j ∧ v14 = .int .i64 (j : Int) ∧ v13 = .slice dR RR.length cR ∧ RR.length ≤ j ∧ (∀ i, i < RR.length → mayN n T' (nth RR i) = true) ∧ CapR R wr dR cR RR ∧ StE B E wr K n T' F' ∧ Below R W3 wr ∧ Below w.heap.size w wr)
            case atStart => exact ⟨0, 0, none, [], Nat.zero_le _, rfl, rfl, rfl, Nat.le_refl _, fun i hi => by simp at hi, CapR.nil _ _, S3.out, Below.refl _ _, V3.out⟩
            case round =>
              clear S3 V3
              obtain ⟨j, cR, dR, RR, hj, rfl, rfl, rfl, hRj, hRm, hC, hSt, hbR, hbw⟩ := hrel
              have HRM := hiddenN hRm
              have HC := hiddenN hC
              have HST := hiddenN hSt
              have HR := hiddenN hbR
              have HW := hiddenN hbw
              clear hRm hC hSt hbR hbw
              have hRr : R ≤ wr.heap.size := by rw [← hR]; exact HR.out.size
              by_cases hjl : j < M.length
              · have hji : (j : Int) < (M.length : Int) := by omega
                rcases MA.out _ HR.out with e | ⟨mb, mo, ea, hcm⟩
                · rw [e] at hjl; simp at hjl
                have cm := hcm j hjl
                rcases BY.out _ HW.out with e | ⟨yb2, yo2, ey, hcy⟩
                · rw [e] at hys; simp at hys; omega
                cases ey
                have cy := hcy q (by omega)
                have kx := KX.out j hjl
                subst ea
                have Bd := hiddenN (fun (U : World) (hb : Below wr.heap.size wr U) => cellN_later hb cm)
                clear hcm hcy
                generalize nth M j = xm at *
                generalize nth ys q = xy at *
                by_cases hxy : xm = xy
                · have e1 := kx.1 hxy
                  have hrn : ((rn : Int) != 1) = false := by rw [e1]; rfl
                  clear e1 kx
                  subst hxy
                  have hbe : (xm == xm) = true := by simp
                  go_wp2
                  go_quiet (fail)
                  go_wp2
                  go_roundg (M.length - (j + 1))
                  case measure => omega
                  case rel => exact ⟨j + 1, cR, dR, RR, by omega, rfl, by go_num, rfl, by omega, HRM.out, HC.out.later (drewB (Below.refl _ _) _), HST.out.below (drewB (Below.refl _ _) _), drewB HR.out _, drewB HW.out _⟩
                · have e2 := kx.2 hxy
                  have hbe : (xm == xy) = false := by simpa using hxy
                  have HX := hiddenN (nth_snoc (P := fun x => mayN n T' x = true) HRM.out e2)
                  have MY : Hid (∀ U, StE B E U K n T' F' → Calls Try.prog 26 #[.pointer (some ⟨K, 0, none⟩), .int .i64 xm] U fun e w' => e = .returned (.bool true) ∧ Below U.heap.size U w') := fun U hs => by
                    have q := may_any U K n T' F' hs xm
                    rw [e2] at q
                    exact q
                  clear kx e2
                  have MYd : Hid (∀ m, Calls Try.prog 26 #[.pointer (some ⟨K, 0, none⟩), .int .i64 xm] (wr.drewN m) fun e w' => e = .returned (.bool true) ∧ Below wr.heap.size wr w') := fun m => by
                    have hd := drewB (Below.refl wr.heap.size wr) m
                    exact (MY.out (wr.drewN m) (HST.out.below hd)).mono fun e w' hh => ⟨hh.1, hd.trans (hh.2.mono hd.size)⟩
                  clear MY
                  go_wp2
                  go_quiet (fail)
                  go_upto_region 26 with (go_at_call 26; (with_reducible refine (MYd.out _).mono ?_); rintro e U ⟨rfl, b1⟩; have C1 := hiddenN (HC.out.later b1); have T1 := hiddenN (HST.out.below b1); have Q1 := hiddenN (HR.out.trans (b1.mono hRr)); have V1 := hiddenN (HW.out.trans (b1.mono HW.out.size)); have cU := Bd.out _ b1; clear b1 cm)
                  have hRU : R ≤ U.heap.size := by rw [← hR]; exact Q1.out.size
                  have ba := (Below.refl U.heap.size U).alloc (Nat.le_refl _) (.cells #[.int .i64 xm] 3)
                  have C2 := hiddenN (C1.out.later ba)
                  have AX := hiddenN (at_alloc1 U xm)
                  have T2 := hiddenN (T1.out.below ba)
                  have Q2 := hiddenN (Q1.out.trans (ba.mono hRU))
                  have V2 := hiddenN (V1.out.trans (ba.mono V1.out.size))
                  have hR2 : R ≤ (U.alloc (.cells #[.int .i64 xm] 3)).heap.size := Nat.le_trans hRU ba.size
                  have hER : E ≤ R := Nat.le_trans hEQ hQR
                  have hwR : w.heap.size ≤ R := by omega
                  clear ba
                  go_wp2_with (at_builtin; refine wpList_appI rfl _ _ rfl R dR cR RR rfl C2.out (some ⟨U.heap.size, 0, none⟩) 1 [xm] rfl (fun e => by cases e) AX.out (by simp; omega) hR2 (RR.length + 1) (RR ++ [xm]) rfl rfl ?_; intro d3 c3 W4 hd3 b3; have C3 := hiddenN hd3; have T3 := hiddenN (T2.out.bel b3 hER); have Q3 := hiddenN (Q2.out.trans b3); have V3 := hiddenN (V2.out.trans (b3.mono hwR)); clear hd3 b3)
                  go_roundg (M.length - (j + 1))
                  case measure => omega
                  case rel => exact ⟨j + 1, c3, d3, RR ++ [xm], by omega, rfl, by go_num, by simp, by simp; omega, HX.out, C3.out, T3.out, Q3.out, V3.out⟩
              · have ej : j = M.length := by omega
                have hji : ¬ (j : Int) < (M.length : Int) := by omega
                go_wp2
                go_roundg (len2 - (q + 1))
                case measure => omega
                case rel => exact ⟨q + 1, cR, dR, RR, T', F', by omega, rfl, by go_num, rfl, by omega, HRM.out, HC.out.mono hQR, HST.out, FX.out, Nat.le_trans hQR hRr, HW.out⟩
          · have ek : q = len2 := by omega
            subst ek
            have hki : ¬ (q : Int) < (q : Int) := by omega
            have LZ := HW
            go_wp2_with (go_at_call 14; (with_reducible refine (AW.out _).mono ?_); rintro e w9 ⟨rfl, b9⟩; have L9 := hiddenN (LZ.out.trans (b9.mono LZ.out.size)); clear b9)
            go_ret
            exact ⟨by first | rfl | simp, L9.out⟩
  · have NO : Hid (∀ U, Below w.heap.size w U → Calls Try.prog 12 #[.agg #[.int .i64 n.nodes, .slice a n.arcs.length c]] U fun e w' => e = .returned (.tuple #[.pointer none, .int .i64 (checkN n)]) ∧ Below U.heap.size U w') := fun U hb => new_no n a c w h hc0 U hb
    have hcb : (checkN n != 0) = true := by simpa using hc0
    generalize checkN n = cd at *
    clear h1 h2 h
    go_enter Try.func8, Try.ntmps8
    go_upto_region 1 with fail
    generalize w.alloc (.cells #[.int .i64 n.nodes, .slice a n.arcs.length c] 24) = W0 at *
    go_wp2_with (first | (go_at_call 12; (with_reducible refine (NO.out _ B0.out).mono ?_); rintro e W1 ⟨rfl, b1⟩; have LZ := hiddenN (B0.out.trans (b1.mono B0.out.size)); clear b1) | (go_at_call 14; (with_reducible refine (AW.out _).mono ?_); rintro e w9 ⟨rfl, b9⟩; have L9 := hiddenN (LZ.out.trans (b9.mono LZ.out.size)); clear b9))
    go_ret
    exact ⟨by first | rfl | simp, L9.out⟩
end Go.Proofs.Ytancphohpedigaa
