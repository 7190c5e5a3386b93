/- Texts of one chain, laid one behind the other. -/
import Derived.Test.YtmeogapffdgjlaaPartLoopsRound25
namespace Go.Proofs.Ytmeogapffdgjlaa
open Go.ChangeShapes Go.WideShapes Go.ChangeAt Go.RowKit
theorem Try.cellsRnd : Try.prog.cellsOf 55 = 5 := by kernel_rfl
theorem Try.cells3R : Try.prog.cellsOf 3 = 1 := by kernel_rfl
set_option maxRecDepth 100000 in
theorem round_open {H : Type} {enc : TypeId × Value → H} {W : World} {base : Nat} {held : Bool} {r : Reach} {b0 : Nat} {v : Value} {d : DataW H} {p : List MemPlace} (hv : Value.okWide Try.prog W r b0 55 v) (h : DataW.Trod enc Try.prog W base (fun _ => true) held 55 v d p) : ∃ x y z u m : Int, v = .agg #[.int .i64 x, .int .i64 y, .int .i64 z, .int .i64 u, .int .i64 m] := by
  obtain ⟨cs, rfl, hsz⟩ := okWide_struct Try.underlying55 hv
  rw [Try.cellsRnd] at hsz
  obtain ⟨fuel, hf⟩ := h
  obtain ⟨xs, k, hk, hxy, hcl, hxl, hf⟩ := DataW.trod_struct Try.underlying55 hf
  obtain ⟨l⟩ := cs
  match xs, hxl, l, hsz with
  | [y0, y1, y2, y3, y4], _, [v0, v1, v2, v3, v4], _ =>
    have g0 := hf 0 _ rfl
    have g1 := hf 1 _ rfl
    have g2 := hf 2 _ rfl
    have g3 := hf 3 _ rfl
    have g4 := hf 4 _ rfl
    simp [Value.cells, Try.cells3R] at g0 g1 g2 g3 g4
    obtain ⟨z0, q0, -, -⟩ := DataW.trod_int Try.underlying3 g0
    obtain ⟨z1, q1, -, -⟩ := DataW.trod_int Try.underlying3 g1
    obtain ⟨z2, q2, -, -⟩ := DataW.trod_int Try.underlying3 g2
    obtain ⟨z3, q3, -, -⟩ := DataW.trod_int Try.underlying3 g3
    obtain ⟨z4, q4, -, -⟩ := DataW.trod_int Try.underlying3 g4
    simp only [List.cons.injEq, and_true] at q0 q1 q2 q3 q4
    subst q0 q1 q2 q3 q4
    exact ⟨z0, z1, z2, z3, z4, rfl⟩
set_option maxRecDepth 100000 in
set_option maxHeartbeats 16000000 in
theorem loopsRound_walk (xa xb xs xt xm : Int) (w : World) : Calls Try.prog 8 #[.agg #[.int .i64 xa, .int .i64 xb, .int .i64 xs, .int .i64 xt, .int .i64 xm]] w fun e w' => e = .returned (.bool true) ∧ Below w.heap.size w w' := by
  obtain ⟨RE, hRE⟩ : ∃ Q : Ending → World → Prop, (fun e w' => e = .returned (.bool true) ∧ Below w.heap.size w w') = Q := ⟨_, rfl⟩
  rw [hRE]
  have HRE := hiddenN hRE
  clear hRE
  have b0 := (Below.refl w.heap.size w).alloc (Nat.le_refl _) (.cells #[.int .i64 xa, .int .i64 xb, .int .i64 xs, .int .i64 xt, .int .i64 xm] 55)
  have B0 := hiddenN b0
  have X0 := hiddenN (blkA_new 55 w #[.int .i64 xa, .int .i64 xb, .int .i64 xs, .int .i64 xt, .int .i64 xm])
  have y0 := X0.out.cell (k := 0) rfl
  have y1 := X0.out.cell (k := 1) rfl
  have y2 := X0.out.cell (k := 2) rfl
  have y3 := X0.out.cell (k := 3) rfl
  have y4 := X0.out.cell (k := 4) rfl
  simp only [List.getElem_toArray, List.getElem_cons_zero, List.getElem_cons_succ] at y0 y1 y2 y3 y4
  clear b0 X0
  go_enter Try.func8, Try.ntmps8
  go_upto_region 1 with fail
  generalize w.alloc (.cells #[.int .i64 xa, .int .i64 xb, .int .i64 xs, .int .i64 xt, .int .i64 xm] 55) = W0 at *
  go_upto_region 6 with fail
  clear y0 y1 y2 y3 y4
  by_cases c1 : xa < 0
  · go_wp2
    rw [← HRE.out]
    exact ⟨by first | rfl | simp, B0.out⟩
  by_cases c2 : 31 < xa
  · go_wp2
    rw [← HRE.out]
    exact ⟨by first | rfl | simp, B0.out⟩
  by_cases c3 : xb < 0
  · go_wp2
    rw [← HRE.out]
    exact ⟨by first | rfl | simp, B0.out⟩
  by_cases c4 : 31 < xb
  · go_wp2
    rw [← HRE.out]
    exact ⟨by first | rfl | simp, B0.out⟩
  by_cases c5 : xa = xb
  · subst c5
    have c5b : (xa == xa) = true := by simp
    go_wp2
    rw [← HRE.out]
    exact ⟨by first | rfl | simp, B0.out⟩
  have c5b : (xa == xb) = false := by simpa using c5
  by_cases c6 : xs < 1
  · go_wp2
    rw [← HRE.out]
    exact ⟨by first | rfl | simp, B0.out⟩
  by_cases c7 : 1000 < xs
  · go_wp2
    rw [← HRE.out]
    exact ⟨by first | rfl | simp, B0.out⟩
  by_cases c8 : xt < 1
  · go_wp2
    rw [← HRE.out]
    exact ⟨by first | rfl | simp, B0.out⟩
  by_cases c9 : 1000 < xt
  · go_wp2
    rw [← HRE.out]
    exact ⟨by first | rfl | simp, B0.out⟩
  by_cases c10 : xm < 2
  · go_wp2
    rw [← HRE.out]
    exact ⟨by first | rfl | simp, B0.out⟩
  obtain ⟨S, rfl⟩ : ∃ q : Nat, xs = (q : Int) := ⟨xs.toNat, by omega⟩
  obtain ⟨T, rfl⟩ : ∃ q : Nat, xt = (q : Int) := ⟨xt.toNat, by omega⟩
  obtain ⟨M, rfl⟩ : ∃ q : Nat, xm = (q : Int) := ⟨xm.toNat, by omega⟩
  obtain ⟨ST, hST⟩ : ∃ q, S + T = q := ⟨_, rfl⟩
  obtain ⟨Q, hQ⟩ : ∃ q, 2048 / ST = q := ⟨_, rfl⟩
  have hQm : Q ≤ 2048 := by rw [← hQ]; exact Nat.div_le_self _ _
  have k1 : IntKind.i64.wrap ((S : Int) + (T : Int)) = (ST : Int) := by rw [IntKind.wrap_i64]; omega
  have k2 : (2048 : Int).tdiv (ST : Int) = (Q : Int) := by rw [← hQ]; exact tdivZ ST
  have k3 : IntKind.i64.wrap (Q : Int) = (Q : Int) := by rw [IntKind.wrap_i64]; omega
  have k4 : ((ST : Int) == 0) = false := by simp; omega
  have k5 : ¬ ((ST : Int) = 0) := by omega
  have k5n : ¬ (ST = 0) := by omega
  by_cases hMQ : (Q : Int) < (M : Int)
  · go_wp2
    rw [← HRE.out]
    exact ⟨by first | rfl | simp, B0.out⟩
  have hML : M * ST ≤ 2048 := by
    have : M ≤ 2048 / ST := by omega
    exact (Nat.le_div_iff_mul_le (by omega)).1 this
  have hM2 : 2 ≤ M := by omega
  have hS1 : 1 ≤ S := by omega
  have hT1 : 1 ≤ T := by omega
  have hSm : S ≤ 1000 := by omega
  have hTm : T ≤ 1000 := by omega
  have hMm : M ≤ 2048 := by omega
  have HST := hiddenN hST
  have HML := hiddenN hML
  have HCA := hiddenN (ab_cmp (a := xa) (b := xb) (s := S) (t := T) (m := M) ⟨by omega, by omega⟩ ⟨by omega, by omega⟩ c5 hS1 hT1 hM2 (by rw [hST]; exact hML))
  have HCR := hiddenN (rep_cmp (a := xa) (s := S) ⟨by omega, by omega⟩ hS1 (by omega))
  clear hST hQ hML
  go_upto_region 10 with fail
  clear k1 k2 k3 k4 k5 k5n hMQ hQm
  go_loopg [8, 9] M (fun gk lv iv wr => ∃ (i n c : Nat) (d : Option Addr), i ≤ M ∧ gk = M - i ∧ (abI xa xb S T i).length = n ∧ lv = .slice d n c ∧ iv = .int .i64 (i : Int) ∧ CapR w.heap.size wr d c (abI xa xb S T i) ∧ Below w.heap.size w wr)
  case atStart => exact ⟨0, 0, 0, none, Nat.zero_le _, rfl, rfl, rfl, rfl, CapR.nil _ _, B0.out⟩
  case round =>
    obtain ⟨i, n0, c0, d0, hiM, hgk0, hn0, rfl, rfl, hC, hb⟩ := hrel
    have HGK0 := hiddenN hgk0
    have HN0 := hiddenN hn0
    have HC0 := hiddenN hC
    have HB0 := hiddenN hb
    obtain ⟨wA, hwA⟩ : ∃ q : World, q = wr := ⟨_, rfl⟩
    subst hwA
    clear hgk0 hC hb
    by_cases hlt : i < M
    · have hii : (i : Int) < (M : Int) := by omega
      have him : (i : Int) ≤ 2048 := by omega
      have hib : i * ST + ST ≤ 2048 := by
        have h := HML.out
        have : (i + 1) * ST ≤ M * ST := Nat.mul_le_mul_right _ hlt
        rw [Nat.succ_mul] at this
        omega
      have hn0e : n0 = i * ST := by rw [← hn0, ab_len, HST.out]
      have hn0m : n0 + S + T ≤ 2048 := by have := HST.out; omega
      clear hn0e hib hn0
      go_upto_region 13 with fail
      go_loopg [8, 10] S (fun gk lv kv wr => ∃ (k n c : Nat) (d : Option Addr), k ≤ S ∧ gk = S - k ∧ (abI xa xb S T i ++ List.replicate k xa).length = n ∧ lv = .slice d n c ∧ kv = .int .i64 (k : Int) ∧ CapR w.heap.size wr d c (abI xa xb S T i ++ List.replicate k xa) ∧ Below w.heap.size w wr)
      case atStart => exact ⟨0, n0, c0, d0, Nat.zero_le _, rfl, by rw [List.replicate_zero, List.append_nil]; exact HN0.out, rfl, rfl, by rw [List.replicate_zero, List.append_nil]; exact HC0.out, HB0.out⟩
      case round =>
        obtain ⟨k, n, c, d, hkS, hgk, hn, rfl, rfl, hC, hb⟩ := hrel
        have HNM : Hid (n = n0 + k) := by show _ = _; rw [← hn, List.length_append, HN0.out, List.length_replicate]
        have hnb : n ≤ 2048 := by have := HNM.out; omega
        have HGK := hiddenN hgk
        have HNL := hiddenN hn
        have HC := hiddenN hC
        have HB := hiddenN hb
        clear hgk hn hC hb
        by_cases hlk : k < S
        · have hki : (k : Int) < (S : Int) := by omega
          have hkm : (k : Int) ≤ 2048 := by omega
          have bA := (Below.refl wr.heap.size wr).alloc (Nat.le_refl _) (.cells #[.int .i64 xa] 3)
          have XA := hiddenN (blkA_new 3 wr #[.int .i64 xa])
          have u0 := XA.out.cell (k := 0) rfl
          simp only [List.getElem_toArray, List.getElem_cons_zero] at u0
          have OA := hiddenN (HC.out.later bA)
          have BA := hiddenN (HB.out.trans (bA.mono HB.out.size))
          have hBA : w.heap.size ≤ (wr.alloc (.cells #[.int .i64 xa] 3)).heap.size := BA.out.size
          have HE : Hid (((abI xa xb S T i) ++ List.replicate k xa) ++ [xa] = (abI xa xb S T i) ++ List.replicate (k + 1) xa) := by show _ = _; rw [List.replicate_succ', List.append_assoc]
          obtain ⟨zz, hzz⟩ : ∃ q, (abI xa xb S T i) ++ List.replicate k xa = q := ⟨_, rfl⟩
          rw [hzz] at OA HE HNL
          clear bA HC HB hzz
          go_wp2_with (at_builtin; refine wpList_appNq rfl _ _ rfl w.heap.size d c zz n HNL.out rfl OA.out wr.heap.size xa rfl u0 (by omega) hBA ?_; intro d2 c2 W7 hg2; have HG := hiddenN hg2; clear hg2)
          have BW := hiddenN (BA.out.trans (HG.out.below (fun y hy => (OA.out.lt y hy).1) hBA))
          have CWq := hiddenN HG.out.own
          rw [HE.out] at CWq
          go_roundg (S - (k + 1))
          case measure => have := HGK.out; omega
          case rel => exact ⟨k + 1, n + 1, c2, d2, by omega, rfl, by rw [← HE.out, List.length_append, HNL.out]; rfl, rfl, by go_num, CWq.out, BW.out⟩
        · have hki : ¬ ((k : Int) < (S : Int)) := by omega
          have hkS2 : k = S := by omega
          rw [hkS2] at HC HNL
          have hn1m : n + T ≤ 2048 := by have := HNM.out; omega
          have HC1 := hiddenN HC.out
          have HB1 := hiddenN HB.out
          have HNL1 := hiddenN HNL.out
          have HGK1 : Hid (True) := trivial
          clear HC HB HNL HGK hkS hlk
          obtain ⟨wB, hwB⟩ : ∃ q : World, q = wr := ⟨_, rfl⟩
          subst hwB
          go_upto_region 17 with fail
          clear hkS2 hki
          go_loopg [8, 11] T (fun gk lv kv wr => ∃ (k n c : Nat) (d : Option Addr), k ≤ T ∧ gk = T - k ∧ ((abI xa xb S T i ++ List.replicate S xa) ++ List.replicate k xb).length = n ∧ lv = .slice d n c ∧ kv = .int .i64 (k : Int) ∧ CapR w.heap.size wr d c ((abI xa xb S T i ++ List.replicate S xa) ++ List.replicate k xb) ∧ Below w.heap.size w wr)
          case atStart => exact ⟨0, n, c, d, Nat.zero_le _, rfl, by rw [List.replicate_zero, List.append_nil]; exact HNL1.out, rfl, rfl, by rw [List.replicate_zero, List.append_nil]; exact HC1.out, HB1.out⟩
          case round =>
            obtain ⟨n1, hn1⟩ : ∃ q, n = q := ⟨_, rfl⟩
            rw [hn1] at hn1m HNL1
            clear hn1 HC1 HB1 HNM hnb
            obtain ⟨k, n, c, d, hkS, hgk, hn, rfl, rfl, hC, hb⟩ := hrel
            have hnb : n ≤ 2048 := by have : n = n1 + k := by rw [← hn, List.length_append, HNL1.out, List.length_replicate]
                                      omega
            have HGK := hiddenN hgk
            have HNL := hiddenN hn
            have HC := hiddenN hC
            have HB := hiddenN hb
            clear hgk hn hC hb
            by_cases hlk : k < T
            · have hki : (k : Int) < (T : Int) := by omega
              have hkm : (k : Int) ≤ 2048 := by omega
              have bA := (Below.refl wr.heap.size wr).alloc (Nat.le_refl _) (.cells #[.int .i64 xb] 3)
              have XA := hiddenN (blkA_new 3 wr #[.int .i64 xb])
              have u0 := XA.out.cell (k := 0) rfl
              simp only [List.getElem_toArray, List.getElem_cons_zero] at u0
              have OA := hiddenN (HC.out.later bA)
              have BA := hiddenN (HB.out.trans (bA.mono HB.out.size))
              have hBA : w.heap.size ≤ (wr.alloc (.cells #[.int .i64 xb] 3)).heap.size := BA.out.size
              have HE : Hid (((abI xa xb S T i ++ List.replicate S xa) ++ List.replicate k xb) ++ [xb] = (abI xa xb S T i ++ List.replicate S xa) ++ List.replicate (k + 1) xb) := by show _ = _; rw [List.replicate_succ', List.append_assoc]
              obtain ⟨zz, hzz⟩ : ∃ q, (abI xa xb S T i ++ List.replicate S xa) ++ List.replicate k xb = q := ⟨_, rfl⟩
              rw [hzz] at OA HE HNL
              clear bA HC HB hzz
              go_wp2_with (at_builtin; refine wpList_appNq rfl _ _ rfl w.heap.size d c zz n HNL.out rfl OA.out wr.heap.size xb rfl u0 (by omega) hBA ?_; intro d2 c2 W7 hg2; have HG := hiddenN hg2; clear hg2)
              have BW := hiddenN (BA.out.trans (HG.out.below (fun y hy => (OA.out.lt y hy).1) hBA))
              have CWq := hiddenN HG.out.own
              rw [HE.out] at CWq
              go_roundg (T - (k + 1))
              case measure => have := HGK.out; omega
              case rel => exact ⟨k + 1, n + 1, c2, d2, by omega, rfl, by rw [← HE.out, List.length_append, HNL.out]; rfl, rfl, by go_num, CWq.out, BW.out⟩
            · have hki : ¬ ((k : Int) < (T : Int)) := by omega
              have hkS2 : k = T := by omega
              rw [hkS2] at HC HNL
              rw [List.append_assoc] at HC HNL
              go_wp2
              go_roundg (M - (i + 1))
              case measure => have := HGK0.out; omega
              case rel => exact ⟨i + 1, n, c, d, by omega, rfl, HNL.out, rfl, by go_num, HC.out, HB.out⟩
    · have hii : ¬ ((i : Int) < (M : Int)) := by omega
      have hiE : i = M := by omega
      rw [hiE] at HC0 hn0
      have HNM := hiddenN hn0
      have AT := hiddenN HC0.out.at
      have HRM := hiddenN HC0.out.roomQ
      have hn0m : n0 ≤ 2048 := by rw [← hn0, ab_len, HST.out]; exact HML.out
      have hSn : S ≤ n0 := by
        rw [← hn0, ab_len]
        have : 1 * (S + T) ≤ M * (S + T) := Nat.mul_le_mul_right _ (by omega)
        omega
      have HTK : Hid ((abI xa xb S T M).take S = List.replicate S xa) := by
        obtain ⟨q, hq⟩ : ∃ q, M = q + 1 := ⟨M - 1, by omega⟩
        show _ = _
        rw [hq]
        exact ab_take xa xb S T q
      obtain ⟨zs, hzs⟩ : ∃ q, abI xa xb S T M = q := ⟨_, rfl⟩
      rw [hzs] at HCA HNM AT HRM HTK
      rw [HNM.out] at HRM
      have hnc : n0 ≤ c0 := HRM.out
      have hSc : (S : Int) ≤ (c0 : Int) := by omega
      have hS0 : (0 : Int) ≤ (S : Int) := by omega
      rcases AT.out with h0 | ⟨gb, go, rfl, hcl⟩
      · have := HNM.out; rw [h0] at this; simp at this; omega
      clear hcl
      have CO : Hid (∀ u, Below wA.heap.size wA u → Calls Try.prog 22 #[.slice (some ⟨gb, go, none⟩) n0 c0] u fun e w' => ∃ d c, e = .returned (.tuple #[.slice d 1 c, .int .i64 0]) ∧ WrtZ u.heap.size w' d c [⟨(M : Int), 0, [⟨(S : Int), xa, []⟩, ⟨(T : Int), xb, []⟩]⟩] ∧ Below u.heap.size u w') := fun u hu => by
        have := compress_any zs (some ⟨gb, go, none⟩) c0 u (AT.out.below hu)
        unfold CmpE at this
        rw [HCA.out.1, HCA.out.2, HNM.out] at this
        exact this
      have CP : Hid (∀ u, Below wA.heap.size wA u → Calls Try.prog 22 #[.slice (some ⟨gb, go, none⟩) S c0] u fun e w' => ∃ d c, e = .returned (.tuple #[.slice d 1 c, .int .i64 0]) ∧ WrtZ u.heap.size w' d c [⟨(S : Int), xa, []⟩] ∧ Below u.heap.size u w') := fun u hu => by
        have := compress_any (zs.take S) (some ⟨gb, go, none⟩) c0 u ((AT.out.below hu).take S)
        unfold CmpE at this
        rw [HTK.out, HCR.out.1, HCR.out.2, List.length_replicate] at this
        exact this
      clear HCA HCR HTK AT hzs hn0 hiE
      go_upto_region 21 with (go_at_call 22; (with_reducible refine (CO.out wA (Below.refl _ _)).mono ?_); rintro e V1 ⟨d1, c1, rfl, hw, b⟩; have W1 := hiddenN hw; have K1 := hiddenN b; have O1 := hiddenN (HB0.out.trans (b.mono HB0.out.size)); clear hw b)
      go_upto_region 22 with (go_at_call 22; (with_reducible refine (CP.out V1 K1.out).mono ?_); rintro e V2 ⟨d2, c2, rfl, hw, b⟩; have Y2 := hiddenN hw; have W2 := hiddenN (W1.out.later b); have O2 := hiddenN (belowT O1.out b); clear hw b)
      clear CO CP K1 O1 W1 HB0 HC0
      go_upto_region 23 with (first | (go_at_call 19; (with_reducible refine (SM.out).mono ?_); rintro e V7 ⟨rfl, n7, hn7⟩; have O7 : Hid (Below w.heap.size w V7) := (by show Below _ _ _; rw [hn7]; exact belowT O6.out (drewQ _ _)); have Y7 : Hid (WrtZ V1.heap.size V7 d2 c2 [⟨(S : Int), xa, []⟩]) := (by show WrtZ _ _ _ _ _; rw [hn7]; exact Y6.out.later (drewQ _ _)); clear hn7 SM) | (go_at_call 32; (with_reducible refine (blockZ_any (M : Int) (some ⟨V4.heap.size, 0, none⟩) 2 2 (V4.alloc (.cells #[.int .i64 (S : Int), .int .i64 xa, .slice none 0 0, .int .i64 (T : Int), .int .i64 xb, .slice none 0 0] 57))).mono ?_); rintro e V5 ⟨rfl, b⟩; have b6 := alloc_below V5 (.cells #[.int .i64 (M : Int), .int .i64 0, .slice (some ⟨V4.heap.size, 0, none⟩) 2 2] 57); have N5 := hiddenN (NstL.later N4.out b); have SM := hiddenN (((W4.out.later b).later b6).same (n := 1) rfl (by simp [sizZ]) V5.heap.size 1 (nst_solo (t := (M : Int)) (n := 0) (c := 2) N5.out)); have Y6 := hiddenN ((Y4.out.later b).later b6); have O6 := hiddenN (belowT (belowT O4.out b) b6); clear b b6 N5) | (go_at_call 33; (with_reducible refine (leafZ_any xb (T : Int) V3).mono ?_); rintro e V4 ⟨rfl, b⟩; have b4 := alloc_below V4 (.cells #[.int .i64 (S : Int), .int .i64 xa, .slice none 0 0, .int .i64 (T : Int), .int .i64 xb, .slice none 0 0] 57); have N4 := hiddenN (nst_lvf V4 [(xa, (S : Int)), (xb, (T : Int))]); have W4 := hiddenN ((W3.out.later b).later b4); have Y4 := hiddenN ((Y3.out.later b).later b4); have O4 := hiddenN (belowT (belowT O3.out b) b4); clear b b4) | (go_at_call 33; (with_reducible refine (leafZ_any xa (S : Int) V2).mono ?_); rintro e V3 ⟨rfl, b⟩; have W3 := hiddenN (W2.out.later b); have Y3 := hiddenN (Y2.out.later b); have O3 := hiddenN (belowT O2.out b); clear b))
      go_wp2_with (first | (go_at_call 19; (with_reducible refine (SN.out).mono ?_); rintro e V10 ⟨rfl, n9, hn9⟩; have O10 : Hid (Below w.heap.size w V10) := (by show Below _ _ _; rw [hn9]; exact belowT O9.out (drewQ _ _)); clear hn9) | (go_at_call 33; (with_reducible refine (leafZ_any xa (S : Int) V8).mono ?_); rintro e V9 ⟨rfl, b⟩; have b4 := alloc_below V9 (.cells #[.int .i64 (S : Int), .int .i64 xa, .slice none 0 0] 57); have SN := hiddenN (((Y8.out.later b).later b4).same (n := 1) rfl (by simp [sizZ]) V9.heap.size 1 (nst_lvf V9 [(xa, (S : Int))])); have O9 := hiddenN (belowT (belowT O8.out b) b4); clear b b4) | (go_at_call 20; (with_reducible refine (awakeL_any V7).mono ?_); rintro e V8 ⟨rfl, b⟩; have Y8 := hiddenN (Y7.out.later b); have O8 := hiddenN (belowT O7.out b); clear b))
      rw [← HRE.out]
      exact ⟨by first | rfl | simp, O10.out⟩
end Go.Proofs.Ytmeogapffdgjlaa
