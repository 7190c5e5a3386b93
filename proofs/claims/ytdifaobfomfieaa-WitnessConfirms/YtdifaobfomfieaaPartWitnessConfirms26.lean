/- Texts of one chain, laid one behind the other. -/
import Derived.Test.YtdifaobfomfieaaPartWitnessConfirms25
import Derived.WalkMore
import Derived.Test.YtdifaobfomfieaaPartWitnessConfirms18
import Derived.Test.YtdifaobfomfieaaPartWitnessConfirms23
namespace Go.Proofs.Ytdifaobfomfieaa
open Go.ChangeShapes Go.WideShapes Go.ChangeAt Go.RowKit
set_option maxRecDepth 100000 in
set_option maxHeartbeats 8000000 in
theorem anyTwice_any (A : List NA) (m : Int) (a : Option Addr) (c : Nat) (L : List (Int × Bool)) (la : Option Addr) (lc : Nat) (w : World) (ha : AtN w a A) (hl : AtT w la L) (hN : L.length ≤ 4611686018427387904) (hcap : L.length ≤ lc) (hm : nmW A L = true) :
    Calls Try.prog 38 #[.agg #[.int .i64 m, .slice a A.length c], .slice la L.length lc] w fun e w' => e = .returned (.bool (twW A L)) ∧ Below w.heap.size w w' := by
  have HM := hiddenN hm
  obtain ⟨N, hLN⟩ : ∃ N, L.length = N := ⟨_, rfl⟩
  have HLN := hiddenN hLN
  rw [hLN] at hN hcap ⊢
  have b0 := (Below.refl w.heap.size w).alloc (Nat.le_refl _) (.cells #[.int .i64 m, .slice a A.length c] 24)
  have X0 := hiddenN (blkA_new 24 w #[.int .i64 m, .slice a A.length c])
  have B0 := hiddenN b0
  have HA := hiddenN (ha.below b0)
  have HL := hiddenN (hl.below b0)
  clear b0 ha hl hLN hm
  go_enter Try.func38, Try.ntmps38
  go_wp2
  go_step3
  generalize w.alloc (.cells #[.int .i64 m, .slice a A.length c] 24) = W0 at *
  have HTK : Hid (∀ x U, x ∈ L → Below W0.heap.size W0 U → Calls Try.prog 36 #[.agg #[.int .i64 m, .slice a A.length c], .agg #[.int .i64 x.1, .bool x.2]] U fun e w' => e = .returned (arV (tkW A x)) ∧ Below U.heap.size U w') := fun x U hx hU => taken_any A x m a c U (HA.out.below hU) (nm_iff.1 HM.out x hx)
  go_wp2
  go_step3
  go_wp2
  go_loopg [5, 12] N (fun gk u5 u12 wr => ∃ k : Nat, k ≤ N ∧ gk = N - k ∧ u5 = .bool false ∧ u12 = .int .i64 (k : Int) ∧ Below W0.heap.size W0 wr ∧ ∀ i, i < k → frW A L i = true)
  case atStart => exact ⟨0, Nat.zero_le _, rfl, rfl, rfl, Below.refl _ _, fun i hi => absurd hi (Nat.not_lt_zero _)⟩
  case round =>
    obtain ⟨k, hkN, rfl, rfl, rfl, hBr, hI⟩ := hrel
    have BR := hiddenN hBr
    have HI := hiddenN hI
    clear hBr hI
    by_cases hlt : k < N
    · have hki : (k : Int) < (N : Int) := by omega
      have hkL : k < L.length := by rw [HLN.out]; exact hlt
      have HT := HLN.out
      rcases HL.out.below BR.out with e | ⟨lb, lo, el, hcl⟩
      · rw [e] at HT; simp at HT; omega
      obtain ⟨c0, c1⟩ := hcl k hkL
      have HLX := hiddenN HL.out
      rw [el] at HLX
      subst el
      clear hcl HT
      have TK1 := hiddenN (fun U hU => HTK.out (nthT L k) U (by rw [nthT_get hkL]; exact List.getElem_mem _) hU)
      unfold arV at TK1
      have HS1 : Hid (stW A (nthT L k) = (tkW A (nthT L k)).f) := rfl
      obtain ⟨xx, hxx⟩ : ∃ x, nthT L k = x := ⟨_, rfl⟩
      have HX1 := hiddenN hxx
      rw [hxx] at TK1 c0 c1 HS1
      obtain ⟨z, b⟩ := xx
      simp only at c0 c1 TK1
      generalize tkW A (z, b) = Q0 at TK1 HS1
      obtain ⟨qf, qt, qg, qk, qs⟩ := Q0
      simp only at TK1 HS1
      clear hxx
      go_upto_region 5 with fail
      have bs := (Below.refl wr.heap.size wr).alloc (Nat.le_refl _) (.cells #[.int .i64 z, .bool b] 43)
      have XS := hiddenN (blkA_new 43 wr #[.int .i64 z, .bool b])
      have BS := hiddenN (BR.out.trans (bs.mono BR.out.size))
      obtain ⟨sb, hsb⟩ : ∃ q, wr.heap.size = q := ⟨_, rfl⟩
      rw [hsb] at XS ⊢
      generalize wr.alloc (.cells #[.int .i64 z, .bool b] 43) = V1 at *
      clear bs hsb c0 c1
      have hkc : k ≤ lc := by omega
      go_wp2
      go_loopg [5, 21] k (fun gk u5 u21 wr => ∃ j : Nat, j ≤ k ∧ gk = k - j ∧ u5 = .bool false ∧ u21 = .int .i64 (j : Int) ∧ Below V1.heap.size V1 wr ∧ ∀ i, i < j → paW A (nthT L k) (nthT L i) = false)
      case atStart => exact ⟨0, Nat.zero_le _, rfl, rfl, rfl, Below.refl _ _, fun i hi => absurd hi (Nat.not_lt_zero _)⟩
      case round =>
        obtain ⟨j, hjk, rfl, rfl, rfl, hBr, hJ⟩ := hrel
        have BJ := hiddenN hBr
        have HJ := hiddenN hJ
        clear hBr hJ
        by_cases hltj : j < k
        · have hji : (j : Int) < (k : Int) := by omega
          have hjL : j < L.length := by omega
          have B2 := hiddenN (BS.out.trans (BJ.out.mono BS.out.size))
          obtain ⟨c0, c1⟩ : wr.cell? ⟨lb, lo + j * 2, none⟩ = some (.int .i64 (nthT L j).1) ∧ wr.cell? ⟨lb, lo + j * 2 + 1, none⟩ = some (.bool (nthT L j).2) := by
            rcases HL.out.below B2.out with e | ⟨lb', lo', el, hcl⟩
            · have := HLN.out; rw [e] at this; simp at this; omega
            · cases el; exact hcl j hjL
          have TK2' := hiddenN (fun U hU => HTK.out (nthT L j) U (by rw [nthT_get hjL]; exact List.getElem_mem _) hU)
          unfold arV at TK2'
          have HS2 : Hid (stW A (nthT L j) = (tkW A (nthT L j)).f) := rfl
          obtain ⟨xx, hxx⟩ : ∃ x, nthT L j = x := ⟨_, rfl⟩
          have HX2 := hiddenN hxx
          rw [hxx] at TK2' c0 c1 HS2
          obtain ⟨z2, b2⟩ := xx
          simp only at c0 c1 TK2'
          generalize tkW A (z2, b2) = Q0 at TK2' HS2
          obtain ⟨rf, rt, rg, rk, rs⟩ := Q0
          simp only at TK2' HS2
          clear hxx
          go_upto_region 8 with fail
          have bs := (Below.refl wr.heap.size wr).alloc (Nat.le_refl _) (.cells #[.int .i64 z2, .bool b2] 43)
          have XU := hiddenN (blkA_new 43 wr #[.int .i64 z2, .bool b2])
          have B3 := hiddenN (B2.out.trans (bs.mono B2.out.size))
          have BJ3 := hiddenN (BJ.out.trans (bs.mono BJ.out.size))
          obtain ⟨ub, hub⟩ : ∃ q, wr.heap.size = q := ⟨_, rfl⟩
          rw [hub] at XU ⊢
          generalize wr.alloc (.cells #[.int .i64 z2, .bool b2] 43) = V3 at *
          clear bs hub c0 c1
          have XN := hiddenN (X0.out.below B3.out)
          have XZ := hiddenN (XS.out.below BJ3.out)
          have s0 := XZ.out.cell (k := 0) rfl
          have s1 := XZ.out.cell (k := 1) rfl
          have v0 := XU.out.cell (k := 0) rfl
          have v1 := XU.out.cell (k := 1) rfl
          have y0 := XN.out.cell (k := 0) rfl
          have y1 := XN.out.cell (k := 1) rfl
          simp only [List.getElem_toArray, List.getElem_cons_zero, List.getElem_cons_succ] at s0 s1 v0 v1 y0 y1
          have TK2 : Hid (∀ U, Below V3.heap.size V3 U → _) := fun U hU => TK2'.out U (B3.out.trans (hU.mono B3.out.size))
          have TK1' : Hid (∀ U, Below V3.heap.size V3 U → _) := fun U hU => TK1.out U (B3.out.trans (hU.mono B3.out.size))
          have HPA : Hid (paW A (nthT L k) (nthT L j) = (decide (z = z2) || decide (qf = rf))) := by
            show _ = _
            unfold paW
            rw [HX1.out, HX2.out, HS1.out, HS2.out]
          by_cases hz : z = z2
          · have hzz : (z == z2) = true := by simpa using hz
            refine wp_region_gen [] (fun d_ i u_ z_ => match i with
                | 0 => z_ = .pointer (some ⟨sb, 0, none⟩)
                | 1 => z_ = .int .i64 z
                | 2 => z_ = .pointer (some ⟨ub, 0, none⟩)
                | 3 => z_ = .int .i64 z2
                | 4 => z_ = .bool true
                | 5 => z_ = .bool true
                | 6 => z_ = undef
                | 7 => z_ = undef
                | 8 => z_ = undef
                | 9 => z_ = undef
                | 10 => z_ = undef
                | 11 => z_ = undef
                | 12 => z_ = undef
                | 13 => z_ = undef
                | 14 => z_ = undef
                | 15 => z_ = .bool true
                | _ => True) (fun d_ u_ => Below V3.heap.size V3 u_) (by kernel_rfl) (by kernel_rfl) (by kernel_rfl) ?_ ?_ ?_ ?_ ?_ ?_ (by kernel_rfl)
            · intro d_ i w_ v_ w' h hb
              match i, h with
              | 0, h => exact h
              | 1, h => exact h
              | 2, h => exact h
              | 3, h => exact h
              | 4, h => exact h
              | 5, h => exact h
              | 6, h => exact h
              | 7, h => exact h
              | 8, h => exact h
              | 9, h => exact h
              | 10, h => exact h
              | 11, h => exact h
              | 12, h => exact h
              | 13, h => exact h
              | 14, h => exact h
              | 15, h => exact h
              | _ + 16, _ => trivial
            · intro d_ u_ u' h hb
              exact h.trans (hb.mono h.size)
            · exact Below.refl _ _
            · intro d_ i o ρ w' hm ho hf hg hC hcs hfs hfr hdep
              match i, hm, ho, hf, hg, hfr, hdep with
              | 0, _, ho, hf, hg, hfr, hdep =>
                simp only [gTA, gCZ, gSI] at ho
                subst ho
                refine ⟨fun _ => ?_, fun hw => absurd (show true = false from hw) (by decide)⟩
                have ts : ρ (.tmp 7) = .pointer (some ⟨sb, 0, none⟩) := hfr 7 (by kernel_rfl)
                simp [go_sem, ts]
                exact ⟨Below.refl _ _, rfl⟩
              | 1, _, ho, hf, hg, hfr, hdep =>
                simp only [gTA, gCZ, gCS, gSI] at ho
                subst ho
                refine ⟨fun _ => ?_, fun hw => absurd (show true = false from hw) (by decide)⟩
                have k0 := cellN_later hC s0
                have d0 : ρ (.tmp 25) = .pointer (some ⟨sb, 0, none⟩) := hdep 0 25 (by kernel_rfl) (by kernel_rfl)
                simp [go_sem, d0, k0]
                exact ⟨Below.refl _ _, rfl⟩
              | 2, _, ho, hf, hg, hfr, hdep =>
                simp only [gTA, gCZ, gCS, gSI] at ho
                subst ho
                refine ⟨fun _ => ?_, fun hw => absurd (show true = false from hw) (by decide)⟩
                have ts : ρ (.tmp 9) = .pointer (some ⟨ub, 0, none⟩) := hfr 9 (by kernel_rfl)
                simp [go_sem, ts]
                exact ⟨Below.refl _ _, rfl⟩
              | 3, _, ho, hf, hg, hfr, hdep =>
                simp only [gTA, gCZ, gCS, gSI] at ho
                subst ho
                refine ⟨fun _ => ?_, fun hw => absurd (show true = false from hw) (by decide)⟩
                have k0 := cellN_later hC v0
                have d0 : ρ (.tmp 27) = .pointer (some ⟨ub, 0, none⟩) := hdep 2 27 (by kernel_rfl) (by kernel_rfl)
                simp [go_sem, d0, k0]
                exact ⟨Below.refl _ _, rfl⟩
              | 4, _, ho, hf, hg, hfr, hdep =>
                simp only [gTA, gCZ, gCS, gSI] at ho
                subst ho
                refine ⟨fun _ => ?_, fun hw => absurd (show true = false from hw) (by decide)⟩
                have d0 : ρ (.tmp 26) = .int .i64 z := hdep 1 26 (by kernel_rfl) (by kernel_rfl)
                have d1 : ρ (.tmp 28) = .int .i64 z2 := hdep 3 28 (by kernel_rfl) (by kernel_rfl)
                simp [go_sem, d0, d1, hzz]
                exact ⟨Below.refl _ _, rfl⟩
              | 5, _, ho, hf, hg, hfr, hdep =>
                simp only [gTA, gCZ, gCS, gSI] at ho
                subst ho
                refine ⟨fun _ => ?_, fun hw => absurd (show true = false from hw) (by decide)⟩
                have d0 : ρ (.tmp 29) = .bool true := hdep 4 29 (by kernel_rfl) (by kernel_rfl)
                simp [go_sem, d0]
                exact ⟨Below.refl _ _, rfl⟩
              | 6, _, ho, hf, hg, hfr, hdep =>
                simp only [gTA, gCZ, gCS, gSI] at ho
                subst ho
                have gd : ρ (.tmp 30) = .bool true := hdep 5 30 (by kernel_rfl) (by kernel_rfl)
                exact ⟨fun hw => absurd (show (match ρ (.tmp 30) with | .bool c => c == false | _ => false) = true from hw) (by rw [gd]; decide), fun _ => rfl⟩
              | 7, _, ho, hf, hg, hfr, hdep =>
                simp only [gTA, gCZ, gCS, gSI] at ho
                subst ho
                have gd : ρ (.tmp 30) = .bool true := hdep 5 30 (by kernel_rfl) (by kernel_rfl)
                exact ⟨fun hw => absurd (show (match ρ (.tmp 30) with | .bool c => c == false | _ => false) = true from hw) (by rw [gd]; decide), fun _ => rfl⟩
              | 8, _, ho, hf, hg, hfr, hdep =>
                simp only [gTA, gCZ, gCS, gSI] at ho
                subst ho
                have gd : ρ (.tmp 30) = .bool true := hdep 5 30 (by kernel_rfl) (by kernel_rfl)
                exact ⟨fun hw => absurd (show (match ρ (.tmp 30) with | .bool c => c == false | _ => false) = true from hw) (by rw [gd]; decide), fun _ => rfl⟩
              | 9, _, ho, hf, hg, hfr, hdep =>
                simp only [gTA, gCZ, gCS, gSI] at ho
                subst ho
                have gd : ρ (.tmp 30) = .bool true := hdep 5 30 (by kernel_rfl) (by kernel_rfl)
                exact ⟨fun hw => absurd (show (match ρ (.tmp 30) with | .bool c => c == false | _ => false) = true from hw) (by rw [gd]; decide), fun _ => rfl⟩
              | 10, _, ho, hf, hg, hfr, hdep =>
                simp only [gTA, gCZ, gCS, gSI] at ho
                subst ho
                have gd : ρ (.tmp 30) = .bool true := hdep 5 30 (by kernel_rfl) (by kernel_rfl)
                exact ⟨fun hw => absurd (show (match ρ (.tmp 30) with | .bool c => c == false | _ => false) = true from hw) (by rw [gd]; decide), fun _ => rfl⟩
              | 11, _, ho, hf, hg, hfr, hdep =>
                simp only [gTA, gCZ, gCS, gSI] at ho
                subst ho
                have gd : ρ (.tmp 30) = .bool true := hdep 5 30 (by kernel_rfl) (by kernel_rfl)
                exact ⟨fun hw => absurd (show (match ρ (.tmp 30) with | .bool c => c == false | _ => false) = true from hw) (by rw [gd]; decide), fun _ => rfl⟩
              | 12, _, ho, hf, hg, hfr, hdep =>
                simp only [gTA, gCZ, gCS, gSI] at ho
                subst ho
                have gd : ρ (.tmp 30) = .bool true := hdep 5 30 (by kernel_rfl) (by kernel_rfl)
                exact ⟨fun hw => absurd (show (match ρ (.tmp 30) with | .bool c => c == false | _ => false) = true from hw) (by rw [gd]; decide), fun _ => rfl⟩
              | 13, _, ho, hf, hg, hfr, hdep =>
                simp only [gTA, gCZ, gCS, gSI] at ho
                subst ho
                have gd : ρ (.tmp 30) = .bool true := hdep 5 30 (by kernel_rfl) (by kernel_rfl)
                exact ⟨fun hw => absurd (show (match ρ (.tmp 30) with | .bool c => c == false | _ => false) = true from hw) (by rw [gd]; decide), fun _ => rfl⟩
              | 14, _, ho, hf, hg, hfr, hdep =>
                simp only [gTA, gCZ, gCS, gSI] at ho
                subst ho
                have gd : ρ (.tmp 30) = .bool true := hdep 5 30 (by kernel_rfl) (by kernel_rfl)
                exact ⟨fun hw => absurd (show (match ρ (.tmp 30) with | .bool c => c == false | _ => false) = true from hw) (by rw [gd]; decide), fun _ => rfl⟩
              | 15, _, ho, hf, hg, hfr, hdep =>
                simp only [gTA, gCZ, gCS, gSI] at ho
                subst ho
                refine ⟨fun _ => ?_, fun hw => absurd (show true = false from hw) (by decide)⟩
                have t0 : ρ (.tmp 30) = .bool true := hdep 5 30 (by kernel_rfl) (by kernel_rfl)
                simp [go_sem, t0, hcs]
                exact ⟨Below.refl _ _, rfl⟩
              | n + 16, _, ho, _, _, _, _ => simp at ho
            · intro d_ i o ρ w' hm ho h0 hf hg hC hcs hfs hfr hdep
              exact absurd hm (by simp)
            · intro U4 V4 hC4 hS
              have e0 : U4 0 = .pointer (some ⟨sb, 0, none⟩) := hS 0 (by decide) (by intro h; cases h)
              have e1 : U4 1 = .int .i64 z := hS 1 (by decide) (by intro h; cases h)
              have e2 : U4 2 = .pointer (some ⟨ub, 0, none⟩) := hS 2 (by decide) (by intro h; cases h)
              have e3 : U4 3 = .int .i64 z2 := hS 3 (by decide) (by intro h; cases h)
              have e4 : U4 4 = .bool true := hS 4 (by decide) (by intro h; cases h)
              have e5 : U4 5 = .bool true := hS 5 (by decide) (by intro h; cases h)
              have e6 : U4 6 = undef := hS 6 (by decide) (by intro h; cases h)
              have e7 : U4 7 = undef := hS 7 (by decide) (by intro h; cases h)
              have e8 : U4 8 = undef := hS 8 (by decide) (by intro h; cases h)
              have e9 : U4 9 = undef := hS 9 (by decide) (by intro h; cases h)
              have e10 : U4 10 = undef := hS 10 (by decide) (by intro h; cases h)
              have e11 : U4 11 = undef := hS 11 (by decide) (by intro h; cases h)
              have e12 : U4 12 = undef := hS 12 (by decide) (by intro h; cases h)
              have e13 : U4 13 = undef := hS 13 (by decide) (by intro h; cases h)
              have e14 : U4 14 = undef := hS 14 (by decide) (by intro h; cases h)
              have e15 : U4 15 = .bool true := hS 15 (by decide) (by intro h; cases h)
              simp only [puts, e0, e1, e2, e3, e4, e5, e6, e7, e8, e9, e10, e11, e12, e13, e14, e15]
              simp only [Act.put, List.setIfInBounds_toArray, List.set_cons_zero, List.set_cons_succ]
              clear hS e0 e1 e2 e3 e4 e5 e6 e7 e8 e9 e10 e11 e12 e13 e14 e15
              have L4 := hiddenN (B3.out.trans (hC4.mono B3.out.size))
              have HF : Hid (twW A L = true) := by
                show _ = _
                unfold twW
                rw [all_miss (i := k) hkL (all_miss (i := j) hltj (by rw [HPA.out, decide_eq_true hz]; rfl))]
                rfl
              go_wp2
              try rw [Exit.noGoto_ret]
              go_ret
              exact ⟨by rw [HF.out]; rfl, B0.out.trans (L4.out.mono B0.out.size)⟩
          · have hzz : (z == z2) = false := by simpa using hz
            clear TK1
            have TK1 := hiddenN TK1'.out
            refine wp_region_gen [] (fun d_ i u_ z_ => match i with
                | 0 => z_ = .pointer (some ⟨sb, 0, none⟩)
                | 1 => z_ = .int .i64 z
                | 2 => z_ = .pointer (some ⟨ub, 0, none⟩)
                | 3 => z_ = .int .i64 z2
                | 4 => z_ = .bool false
                | 5 => z_ = .bool false
                | 6 => z_ = .agg #[.int .i64 m, .slice a A.length c]
                | 7 => z_ = .agg #[.int .i64 z, .bool b]
                | 8 => z_ = .agg #[.int .i64 qf, .int .i64 qt, .int .i64 qg, .int .i64 qk, .int .i64 qs]
                | 9 => z_ = .int .i64 qf
                | 10 => z_ = .agg #[.int .i64 m, .slice a A.length c]
                | 11 => z_ = .agg #[.int .i64 z2, .bool b2]
                | 12 => z_ = .agg #[.int .i64 rf, .int .i64 rt, .int .i64 rg, .int .i64 rk, .int .i64 rs]
                | 13 => z_ = .int .i64 rf
                | 14 => z_ = .bool (qf == rf)
                | 15 => z_ = .bool (qf == rf)
                | _ => True) (fun d_ u_ => Below V3.heap.size V3 u_) (by kernel_rfl) (by kernel_rfl) (by kernel_rfl) ?_ ?_ ?_ ?_ ?_ ?_ (by kernel_rfl)
            · intro d_ i w_ v_ w' h hb
              match i, h with
              | 0, h => exact h
              | 1, h => exact h
              | 2, h => exact h
              | 3, h => exact h
              | 4, h => exact h
              | 5, h => exact h
              | 6, h => exact h
              | 7, h => exact h
              | 8, h => exact h
              | 9, h => exact h
              | 10, h => exact h
              | 11, h => exact h
              | 12, h => exact h
              | 13, h => exact h
              | 14, h => exact h
              | 15, h => exact h
              | _ + 16, _ => trivial
            · intro d_ u_ u' h hb
              exact h.trans (hb.mono h.size)
            · exact Below.refl _ _
            · intro d_ i o ρ w' hm ho hf hg hC hcs hfs hfr hdep
              match i, hm, ho, hf, hg, hfr, hdep with
              | 0, _, ho, hf, hg, hfr, hdep =>
                simp only [gTA, gCZ, gSI] at ho
                subst ho
                refine ⟨fun _ => ?_, fun hw => absurd (show true = false from hw) (by decide)⟩
                have ts : ρ (.tmp 7) = .pointer (some ⟨sb, 0, none⟩) := hfr 7 (by kernel_rfl)
                simp [go_sem, ts]
                exact ⟨Below.refl _ _, rfl⟩
              | 1, _, ho, hf, hg, hfr, hdep =>
                simp only [gTA, gCZ, gCS, gSI] at ho
                subst ho
                refine ⟨fun _ => ?_, fun hw => absurd (show true = false from hw) (by decide)⟩
                have k0 := cellN_later hC s0
                have d0 : ρ (.tmp 25) = .pointer (some ⟨sb, 0, none⟩) := hdep 0 25 (by kernel_rfl) (by kernel_rfl)
                simp [go_sem, d0, k0]
                exact ⟨Below.refl _ _, rfl⟩
              | 2, _, ho, hf, hg, hfr, hdep =>
                simp only [gTA, gCZ, gCS, gSI] at ho
                subst ho
                refine ⟨fun _ => ?_, fun hw => absurd (show true = false from hw) (by decide)⟩
                have ts : ρ (.tmp 9) = .pointer (some ⟨ub, 0, none⟩) := hfr 9 (by kernel_rfl)
                simp [go_sem, ts]
                exact ⟨Below.refl _ _, rfl⟩
              | 3, _, ho, hf, hg, hfr, hdep =>
                simp only [gTA, gCZ, gCS, gSI] at ho
                subst ho
                refine ⟨fun _ => ?_, fun hw => absurd (show true = false from hw) (by decide)⟩
                have k0 := cellN_later hC v0
                have d0 : ρ (.tmp 27) = .pointer (some ⟨ub, 0, none⟩) := hdep 2 27 (by kernel_rfl) (by kernel_rfl)
                simp [go_sem, d0, k0]
                exact ⟨Below.refl _ _, rfl⟩
              | 4, _, ho, hf, hg, hfr, hdep =>
                simp only [gTA, gCZ, gCS, gSI] at ho
                subst ho
                refine ⟨fun _ => ?_, fun hw => absurd (show true = false from hw) (by decide)⟩
                have d0 : ρ (.tmp 26) = .int .i64 z := hdep 1 26 (by kernel_rfl) (by kernel_rfl)
                have d1 : ρ (.tmp 28) = .int .i64 z2 := hdep 3 28 (by kernel_rfl) (by kernel_rfl)
                simp [go_sem, d0, d1, hzz]
                exact ⟨Below.refl _ _, rfl⟩
              | 5, _, ho, hf, hg, hfr, hdep =>
                simp only [gTA, gCZ, gCS, gSI] at ho
                subst ho
                refine ⟨fun _ => ?_, fun hw => absurd (show true = false from hw) (by decide)⟩
                have d0 : ρ (.tmp 29) = .bool false := hdep 4 29 (by kernel_rfl) (by kernel_rfl)
                simp [go_sem, d0]
                exact ⟨Below.refl _ _, rfl⟩
              | 6, _, ho, hf, hg, hfr, hdep =>
                simp only [gTA, gCZ, gCS, gSI] at ho
                subst ho
                have gd : ρ (.tmp 30) = .bool false := hdep 5 30 (by kernel_rfl) (by kernel_rfl)
                refine ⟨fun _ => ?_, fun hw => absurd (show (match ρ (.tmp 30) with | .bool c => c == false | _ => false) = false from hw) (by rw [gd]; decide)⟩
                clear gd
                have ts : ρ (.tmp 2) = .pointer (some ⟨w.heap.size, 0, none⟩) := hfr 2 (by kernel_rfl)
                have k0 := cellN_later hC y0
                have k1 := cellN_later hC y1
                simp [go_sem, ts, k0, k1]
                exact ⟨Below.refl _ _, rfl⟩
              | 7, _, ho, hf, hg, hfr, hdep =>
                simp only [gTA, gCZ, gCS, gSI] at ho
                subst ho
                have gd : ρ (.tmp 30) = .bool false := hdep 5 30 (by kernel_rfl) (by kernel_rfl)
                refine ⟨fun _ => ?_, fun hw => absurd (show (match ρ (.tmp 30) with | .bool c => c == false | _ => false) = false from hw) (by rw [gd]; decide)⟩
                clear gd
                have ts : ρ (.tmp 7) = .pointer (some ⟨sb, 0, none⟩) := hfr 7 (by kernel_rfl)
                have k0 := cellN_later hC s0
                have k1 := cellN_later hC s1
                simp [go_sem, ts, k0, k1]
                exact ⟨Below.refl _ _, rfl⟩
              | 8, _, ho, hf, hg, hfr, hdep =>
                simp only [gTA, gCZ, gCS, gSI] at ho
                subst ho
                have gd : ρ (.tmp 30) = .bool false := hdep 5 30 (by kernel_rfl) (by kernel_rfl)
                refine ⟨fun _ => ?_, fun hw => absurd (show (match ρ (.tmp 30) with | .bool c => c == false | _ => false) = false from hw) (by rw [gd]; decide)⟩
                clear gd
                have t0 : ρ (.tmp 31) = .agg #[.int .i64 m, .slice a A.length c] := hdep 6 31 (by kernel_rfl) (by kernel_rfl)
                have t1 : ρ (.tmp 32) = .agg #[.int .i64 z, .bool b] := hdep 7 32 (by kernel_rfl) (by kernel_rfl)
                simp [go_sem, t0, t1, hfs]
                exact ⟨rfl, (TK1.out w' hC).mono fun e' w'' hh => ⟨_, hh.1, hh.2, rfl⟩⟩
              | 9, _, ho, hf, hg, hfr, hdep =>
                simp only [gTA, gCZ, gCS, gSI] at ho
                subst ho
                have gd : ρ (.tmp 30) = .bool false := hdep 5 30 (by kernel_rfl) (by kernel_rfl)
                refine ⟨fun _ => ?_, fun hw => absurd (show (match ρ (.tmp 30) with | .bool c => c == false | _ => false) = false from hw) (by rw [gd]; decide)⟩
                clear gd
                have d0 : ρ (.tmp 33) = .agg #[.int .i64 qf, .int .i64 qt, .int .i64 qg, .int .i64 qk, .int .i64 qs] := hdep 8 33 (by kernel_rfl) (by kernel_rfl)
                simp [go_sem, d0]
                exact ⟨Below.refl _ _, rfl⟩
              | 10, _, ho, hf, hg, hfr, hdep =>
                simp only [gTA, gCZ, gCS, gSI] at ho
                subst ho
                have gd : ρ (.tmp 30) = .bool false := hdep 5 30 (by kernel_rfl) (by kernel_rfl)
                refine ⟨fun _ => ?_, fun hw => absurd (show (match ρ (.tmp 30) with | .bool c => c == false | _ => false) = false from hw) (by rw [gd]; decide)⟩
                clear gd
                have ts : ρ (.tmp 2) = .pointer (some ⟨w.heap.size, 0, none⟩) := hfr 2 (by kernel_rfl)
                have k0 := cellN_later hC y0
                have k1 := cellN_later hC y1
                simp [go_sem, ts, k0, k1]
                exact ⟨Below.refl _ _, rfl⟩
              | 11, _, ho, hf, hg, hfr, hdep =>
                simp only [gTA, gCZ, gCS, gSI] at ho
                subst ho
                have gd : ρ (.tmp 30) = .bool false := hdep 5 30 (by kernel_rfl) (by kernel_rfl)
                refine ⟨fun _ => ?_, fun hw => absurd (show (match ρ (.tmp 30) with | .bool c => c == false | _ => false) = false from hw) (by rw [gd]; decide)⟩
                clear gd
                have ts : ρ (.tmp 9) = .pointer (some ⟨ub, 0, none⟩) := hfr 9 (by kernel_rfl)
                have k0 := cellN_later hC v0
                have k1 := cellN_later hC v1
                simp [go_sem, ts, k0, k1]
                exact ⟨Below.refl _ _, rfl⟩
              | 12, _, ho, hf, hg, hfr, hdep =>
                simp only [gTA, gCZ, gCS, gSI] at ho
                subst ho
                have gd : ρ (.tmp 30) = .bool false := hdep 5 30 (by kernel_rfl) (by kernel_rfl)
                refine ⟨fun _ => ?_, fun hw => absurd (show (match ρ (.tmp 30) with | .bool c => c == false | _ => false) = false from hw) (by rw [gd]; decide)⟩
                clear gd
                have t0 : ρ (.tmp 35) = .agg #[.int .i64 m, .slice a A.length c] := hdep 10 35 (by kernel_rfl) (by kernel_rfl)
                have t1 : ρ (.tmp 36) = .agg #[.int .i64 z2, .bool b2] := hdep 11 36 (by kernel_rfl) (by kernel_rfl)
                simp [go_sem, t0, t1, hfs]
                exact ⟨rfl, (TK2.out w' hC).mono fun e' w'' hh => ⟨_, hh.1, hh.2, rfl⟩⟩
              | 13, _, ho, hf, hg, hfr, hdep =>
                simp only [gTA, gCZ, gCS, gSI] at ho
                subst ho
                have gd : ρ (.tmp 30) = .bool false := hdep 5 30 (by kernel_rfl) (by kernel_rfl)
                refine ⟨fun _ => ?_, fun hw => absurd (show (match ρ (.tmp 30) with | .bool c => c == false | _ => false) = false from hw) (by rw [gd]; decide)⟩
                clear gd
                have d0 : ρ (.tmp 37) = .agg #[.int .i64 rf, .int .i64 rt, .int .i64 rg, .int .i64 rk, .int .i64 rs] := hdep 12 37 (by kernel_rfl) (by kernel_rfl)
                simp [go_sem, d0]
                exact ⟨Below.refl _ _, rfl⟩
              | 14, _, ho, hf, hg, hfr, hdep =>
                simp only [gTA, gCZ, gCS, gSI] at ho
                subst ho
                have gd : ρ (.tmp 30) = .bool false := hdep 5 30 (by kernel_rfl) (by kernel_rfl)
                refine ⟨fun _ => ?_, fun hw => absurd (show (match ρ (.tmp 30) with | .bool c => c == false | _ => false) = false from hw) (by rw [gd]; decide)⟩
                clear gd
                have d0 : ρ (.tmp 34) = .int .i64 qf := hdep 9 34 (by kernel_rfl) (by kernel_rfl)
                have d1 : ρ (.tmp 38) = .int .i64 rf := hdep 13 38 (by kernel_rfl) (by kernel_rfl)
                simp [go_sem, d0, d1]
                exact ⟨Below.refl _ _, rfl⟩
              | 15, _, ho, hf, hg, hfr, hdep =>
                simp only [gTA, gCZ, gCS, gSI] at ho
                subst ho
                refine ⟨fun _ => ?_, fun hw => absurd (show true = false from hw) (by decide)⟩
                have t0 : ρ (.tmp 30) = .bool false := hdep 5 30 (by kernel_rfl) (by kernel_rfl)
                have t1 : ρ (.tmp 39) = .bool (qf == rf) := hdep 14 39 (by kernel_rfl) (by kernel_rfl)
                simp [go_sem, t0, t1]
                exact ⟨Below.refl _ _, rfl⟩
              | n + 16, _, ho, _, _, _, _ => simp at ho
            · intro d_ i o ρ w' hm ho h0 hf hg hC hcs hfs hfr hdep
              exact absurd hm (by simp)
            · intro U4 V4 hC4 hS
              have e0 : U4 0 = .pointer (some ⟨sb, 0, none⟩) := hS 0 (by decide) (by intro h; cases h)
              have e1 : U4 1 = .int .i64 z := hS 1 (by decide) (by intro h; cases h)
              have e2 : U4 2 = .pointer (some ⟨ub, 0, none⟩) := hS 2 (by decide) (by intro h; cases h)
              have e3 : U4 3 = .int .i64 z2 := hS 3 (by decide) (by intro h; cases h)
              have e4 : U4 4 = .bool false := hS 4 (by decide) (by intro h; cases h)
              have e5 : U4 5 = .bool false := hS 5 (by decide) (by intro h; cases h)
              have e6 : U4 6 = .agg #[.int .i64 m, .slice a A.length c] := hS 6 (by decide) (by intro h; cases h)
              have e7 : U4 7 = .agg #[.int .i64 z, .bool b] := hS 7 (by decide) (by intro h; cases h)
              have e8 : U4 8 = .agg #[.int .i64 qf, .int .i64 qt, .int .i64 qg, .int .i64 qk, .int .i64 qs] := hS 8 (by decide) (by intro h; cases h)
              have e9 : U4 9 = .int .i64 qf := hS 9 (by decide) (by intro h; cases h)
              have e10 : U4 10 = .agg #[.int .i64 m, .slice a A.length c] := hS 10 (by decide) (by intro h; cases h)
              have e11 : U4 11 = .agg #[.int .i64 z2, .bool b2] := hS 11 (by decide) (by intro h; cases h)
              have e12 : U4 12 = .agg #[.int .i64 rf, .int .i64 rt, .int .i64 rg, .int .i64 rk, .int .i64 rs] := hS 12 (by decide) (by intro h; cases h)
              have e13 : U4 13 = .int .i64 rf := hS 13 (by decide) (by intro h; cases h)
              have e14 : U4 14 = .bool (qf == rf) := hS 14 (by decide) (by intro h; cases h)
              have e15 : U4 15 = .bool (qf == rf) := hS 15 (by decide) (by intro h; cases h)
              simp only [puts, e0, e1, e2, e3, e4, e5, e6, e7, e8, e9, e10, e11, e12, e13, e14, e15]
              simp only [Act.put, List.setIfInBounds_toArray, List.set_cons_zero, List.set_cons_succ]
              clear hS e0 e1 e2 e3 e4 e5 e6 e7 e8 e9 e10 e11 e12 e13 e14 e15
              have L4 := hiddenN (B3.out.trans (hC4.mono B3.out.size))
              by_cases hq : qf = rf
              · have hqq : (qf == rf) = true := by simpa using hq
                rw [hqq]
                have HF : Hid (twW A L = true) := by
                  show _ = _
                  unfold twW
                  rw [all_miss (i := k) hkL (all_miss (i := j) hltj (by rw [HPA.out, decide_eq_true hq, Bool.or_true]; rfl))]
                  rfl
                go_wp2
                try rw [Exit.noGoto_ret]
                go_ret
                exact ⟨by rw [HF.out]; rfl, B0.out.trans (L4.out.mono B0.out.size)⟩
              · have hqq : (qf == rf) = false := by simpa using hq
                rw [hqq]
                go_wp2
                go_roundg (k - (j + 1))
                case measure => omega
                case rel =>
                  refine ⟨j + 1, by omega, rfl, rfl, by go_num, BJ3.out.trans (hC4.mono BJ3.out.size), fun i hi => ?_⟩
                  by_cases e : i = j
                  · rw [e, HPA.out, decide_eq_false hz, decide_eq_false hq]; rfl
                  · exact HJ.out i (by omega)
        · have ej : j = k := by omega
          subst ej
          have hji : ¬ (j : Int) < (j : Int) := by omega
          go_wp2
          go_roundg (N - (j + 1))
          case measure => omega
          case rel =>
            refine ⟨j + 1, by omega, rfl, rfl, by go_num, BS.out.trans (BJ.out.mono BS.out.size), fun i hi => ?_⟩
            by_cases e : i = j
            · rw [e]
              exact all_range.2 fun i' hi' => by rw [HJ.out i' hi']; rfl
            · exact HI.out i (by omega)
    · have ek : k = N := by omega
      subst ek
      have hki : ¬ (k : Int) < (k : Int) := by omega
      have HF : Hid (twW A L = false) := by
        show _ = _
        unfold twW
        rw [all_range.2 (fun i hi => HI.out i (by rw [HLN.out] at hi; exact hi))]
        rfl
      have L4 := BR
      go_wp2
      try rw [Exit.noGoto_ret]
      go_ret
      exact ⟨by rw [HF.out]; rfl, B0.out.trans (L4.out.mono B0.out.size)⟩
theorem wpList_appG {w : World} {ops : Array Oper} {rest : List Oper} {o : Oper} {a : Act} {Q : Exit → Act → World → Prop} (hgd : o.guard = none) (s x : Operand) (ho : o.op = .call { callee := .builtin .append, args := #[s, x], argTypes := #[26, 26] })
    (B : Nat) (d0 : Option Addr) (c0 : Nat) (zs : List Int) (hs : a.eval s = .slice d0 zs.length c0) (hown : CapR B w d0 c0 zs) (g : Nat) (i : Int) (hx : a.eval x = .slice (some ⟨g, 0, none⟩) 1 1) (hc : w.cell? ⟨g, 0, none⟩ = some (.int .i64 i)) (hn : zs.length ≤ 1000000) (hB : B ≤ w.heap.size)
    (h : ∀ d c' w', GrwN B w d0 (zs ++ [i]) w' d c' → wpList Try.prog ops Q rest (a.put o.dst (.slice d (zs.length + 1) c')) w') : wpList Try.prog ops Q (o :: rest) a w := by
  obtain ⟨i1, hi1, hy0, hy1, hy2⟩ := info_parts Try.info3
  refine wpList_append_told (P := Try.prog) w hgd s x 26 ho B 3 i1 (.int .i64 0) 1 8 Try.underlying26 hi1 hy0 hy1 hy2 rfl (by decide) (.slice d0 zs.length c0) zs.length _ hs hown ⟨g, 0, none⟩ 1 1 (by decide) [.int .i64 i] hx rfl (fun j u hu => by
    match j, hu with
    | 0, hu =>
      simp at hu
      subst hu
      simpa [Addr.add] using hc) (fun u hu => by simp at hu; subst hu; rfl) (by unfold maxLen; omega) (by omega) hB ?_
  intro v' w' h2 h3
  have h2' : w'.ownsRow B 3 1 v' (zs ++ [i]).length ((zs ++ [i]).map (Value.int .i64)) := by simpa using h2
  rcases h3 with ⟨g1, cap, e1, rfl, hg⟩ | ⟨cap, rfl, hg⟩
  · cases e1
    refine h _ _ w' ⟨by unfold CapR; simpa using h2', fun k hk hne => ?_, fun z hz => .inl hz, hg.size, hg.os, hg.tape, hg.output⟩
    exact hg.block k hk (fun e => by cases e; exact hne _ rfl rfl)
  · refine h _ _ w' ⟨by unfold CapR; simpa using h2', fun k hk hne => ?_, fun z hz => by cases hz; exact .inr (Nat.le_refl _), hg.size, hg.os, hg.tape, hg.output⟩
    exact hg.block k hk (fun e => by cases e)
theorem GrwN.below {B Q : Nat} {V u : World} {d0 : Option Addr} {L : List Int} {d : Option Addr} {c : Nat} (h : GrwN B V d0 L u d c) (hQ : Q ≤ V.heap.size) (h0 : ∀ y, d0 = some y → Q ≤ y.block) : Below Q V u :=
  ⟨h.os, h.tape, h.output, h.size, fun k hk => h.keep k (by omega) (fun y hy => by have := h0 y hy; omega)⟩
/-- Two rows of a call's own, apart. -/
structure TwR (B : Nat) (w : World) (d1 : Option Addr) (c1 : Nat) (xs : List Int) (d2 : Option Addr) (c2 : Nat) (ys : List Int) : Prop where
  r1 : CapR B w d1 c1 xs
  r2 : CapR B w d2 c2 ys
  ne : ∀ x y, d1 = some x → d2 = some y → x.block ≠ y.block
theorem TwR.nil (B : Nat) (w : World) : TwR B w none 0 [] none 0 [] := ⟨CapR.nil _ _, CapR.nil _ _, fun x y h => by cases h⟩
theorem TwR.later {B : Nat} {w w' : World} {d1 : Option Addr} {c1 : Nat} {xs : List Int} {d2 : Option Addr} {c2 : Nat} {ys : List Int} (h : TwR B w d1 c1 xs d2 c2 ys) (hb : Below w.heap.size w w') : TwR B w' d1 c1 xs d2 c2 ys := ⟨h.r1.later hb, h.r2.later hb, h.ne⟩
theorem TwR.swap {B : Nat} {w : World} {d1 : Option Addr} {c1 : Nat} {xs : List Int} {d2 : Option Addr} {c2 : Nat} {ys : List Int} (h : TwR B w d1 c1 xs d2 c2 ys) : TwR B w d2 c2 ys d1 c1 xs := ⟨h.r2, h.r1, fun x y hx hy e => h.ne y x hy hx e.symm⟩
theorem TwR.grow {B : Nat} {w w' : World} {d1 : Option Addr} {c1 : Nat} {xs : List Int} {d2 : Option Addr} {c2 : Nat} {ys zs : List Int} {d : Option Addr} {c : Nat} (h : TwR B w d1 c1 xs d2 c2 ys) (hg : GrwN B w d1 zs w' d c) : TwR B w' d c zs d2 c2 ys := by
  refine ⟨hg.own, h.r2.keep fun x hx => hg.keep _ (h.r2.lt x hx).2 (fun y hy => h.ne y x hy hx), fun x y hx hy => ?_⟩
  rcases hg.new x hx with e | e
  · exact h.ne x y e hy
  · have := (h.r2.lt y hy).2
    omega
def RatE (w : World) (xs ys : List Int) (e : Ending) (w' : World) : Prop := ∃ d1 c1 d2 c2, e = .returned (.tuple #[.slice d1 xs.length c1, .slice d2 ys.length c2]) ∧ TwR w.heap.size w' d1 c1 xs d2 c2 ys ∧ Below w.heap.size w w'
theorem gv_take {A : List NA} {L : List (Int × Bool)} {k : Nat} (h : k < L.length) : gvW A (L.take (k + 1)) = gvW A (L.take k) ++ [(tkW A (nthT L k)).g] ∧ kpW A (L.take (k + 1)) = kpW A (L.take k) ++ [(tkW A (nthT L k)).k] := by
  unfold gvW kpW
  rw [List.take_add_one, List.getElem?_eq_getElem h, nthT_get h, List.map_append, List.map_append]
  exact ⟨rfl, rfl⟩
theorem gv_len (A : List NA) (L : List (Int × Bool)) : (gvW A L).length = L.length := by unfold gvW; simp
theorem kp_len (A : List NA) (L : List (Int × Bool)) : (kpW A L).length = L.length := by unfold kpW; simp
set_option maxRecDepth 100000 in
set_option maxHeartbeats 8000000 in
theorem rates_any (A : List NA) (m : Int) (a : Option Addr) (c : Nat) (L : List (Int × Bool)) (la : Option Addr) (lc : Nat) (w : World) (ha : AtN w a A) (hl : AtT w la L) (hN : L.length ≤ 1000) (hm : nmW A L = true) :
    Calls Try.prog 24 #[.agg #[.int .i64 m, .slice a A.length c], .slice la L.length lc] w (RatE w (gvW A L) (kpW A L)) := by
  have HM := hiddenN hm
  obtain ⟨RE, hRE⟩ : ∃ R, RatE w (gvW A L) (kpW A L) = R := ⟨_, rfl⟩
  rw [hRE]
  have HRE := hiddenN hRE
  obtain ⟨N, hLN⟩ : ∃ N, L.length = N := ⟨_, rfl⟩
  have HLN := hiddenN hLN
  rw [hLN] at hN ⊢
  have b0 := (Below.refl w.heap.size w).alloc (Nat.le_refl _) (.cells #[.int .i64 m, .slice a A.length c] 24)
  have X0 := hiddenN (blkA_new 24 w #[.int .i64 m, .slice a A.length c])
  have B0 := hiddenN b0
  have HA := hiddenN (ha.below b0)
  have HL := hiddenN (hl.below b0)
  clear b0 ha hl hLN hm hRE
  go_enter Try.func24, Try.ntmps24
  go_upto_region 1 with fail
  generalize w.alloc (.cells #[.int .i64 m, .slice a A.length c] 24) = W0 at *
  obtain ⟨B, hB⟩ : ∃ B, W0.heap.size = B := ⟨_, rfl⟩
  have HB := hiddenN hB
  clear hB
  have HTK : Hid (∀ x U, x ∈ L → Below B W0 U → Calls Try.prog 36 #[.agg #[.int .i64 m, .slice a A.length c], .agg #[.int .i64 x.1, .bool x.2]] U fun e w' => e = .returned (arV (tkW A x)) ∧ Below U.heap.size U w') := fun x U hx hU => taken_any A x m a c U (HA.out.below (by rw [HB.out]; exact hU)) (nm_iff.1 HM.out x hx)
  go_wp2
  go_loopg [4, 5, 11] N (fun gk u4 u5 u11 wr => ∃ (k : Nat) (d1 : Option Addr) (c1 : Nat) (d2 : Option Addr) (c2 : Nat), k ≤ N ∧ gk = N - k ∧ u4 = .slice d1 (gvW A (L.take k)).length c1 ∧ u5 = .slice d2 (kpW A (L.take k)).length c2 ∧ u11 = .int .i64 (k : Int) ∧ TwR B wr d1 c1 (gvW A (L.take k)) d2 c2 (kpW A (L.take k)) ∧ Below B W0 wr)
  case atStart => exact ⟨0, none, 0, none, 0, Nat.zero_le _, rfl, rfl, rfl, rfl, TwR.nil _ _, Below.refl _ _⟩
  case round =>
    obtain ⟨k, d1, c1, d2, c2, hkN, rfl, rfl, rfl, rfl, hT, hBr⟩ := hrel
    have BR := hiddenN hBr
    have T0 := hiddenN hT
    clear hBr hT
    by_cases hlt : k < N
    · have hki : (k : Int) < (N : Int) := by omega
      have hkL : k < L.length := by rw [HLN.out]; exact hlt
      have HT := HLN.out
      have hBw : B ≤ wr.heap.size := by have := BR.out.size; have := HB.out; omega
      rcases HL.out.below (by rw [HB.out]; exact BR.out) with e | ⟨lb, lo, el, hcl⟩
      · rw [e] at HT; simp at HT; omega
      obtain ⟨c0', c1'⟩ := hcl k hkL
      subst el
      clear hcl HT
      have TK := hiddenN (fun U hU => HTK.out (nthT L k) U (by rw [nthT_get hkL]; exact List.getElem_mem _) hU)
      unfold arV at TK
      have GT := hiddenN (gv_take (A := A) hkL)
      obtain ⟨xx, hxx⟩ : ∃ x, nthT L k = x := ⟨_, rfl⟩
      rw [hxx] at TK c0' c1' GT
      obtain ⟨z, b⟩ := xx
      simp only at c0' c1' TK
      generalize tkW A (z, b) = Q0 at TK GT
      obtain ⟨qf, qt, qg, qk, qs⟩ := Q0
      simp only at TK GT
      clear hxx
      have hl1 : (gvW A (L.take k)).length ≤ 1000 := by rw [gv_len, List.length_take]; omega
      have hl2 : (kpW A (L.take k)).length ≤ 1000 := by rw [kp_len, List.length_take]; omega
      have GT1 := hiddenN GT.out.1
      have GT2 := hiddenN GT.out.2
      clear GT
      generalize gvW A (L.take k) = xs at *
      generalize kpW A (L.take k) = ys at *
      go_upto_region 4 with fail
      have bs := (Below.refl wr.heap.size wr).alloc (Nat.le_refl _) (.cells #[.int .i64 z, .bool b] 43)
      have XS := hiddenN (blkA_new 43 wr #[.int .i64 z, .bool b])
      have BS := hiddenN (BR.out.trans (bs.mono hBw))
      have T1 := hiddenN (T0.out.later bs)
      obtain ⟨sb, hsb⟩ : ∃ q, wr.heap.size = q := ⟨_, rfl⟩
      rw [hsb] at XS ⊢
      generalize wr.alloc (.cells #[.int .i64 z, .bool b] 43) = V1 at *
      clear bs hsb c0' c1' T0
      have s0 := XS.out.cell (k := 0) rfl
      have s1 := XS.out.cell (k := 1) rfl
      have XN := hiddenN (X0.out.below (by rw [HB.out]; exact BS.out))
      have y0 := XN.out.cell (k := 0) rfl
      have y1 := XN.out.cell (k := 1) rfl
      simp only [List.getElem_toArray, List.getElem_cons_zero, List.getElem_cons_succ] at s0 s1 y0 y1
      have hB1 : B ≤ V1.heap.size := by have := BS.out.size; have := HB.out; omega
      go_upto_region 5 with (go_at_call 36; (with_reducible refine (TK.out _ BS.out).mono ?_); rintro e V2 ⟨rfl, b2⟩; have BT := hiddenN (BS.out.trans (b2.mono hB1)); have T2 := hiddenN (T1.out.later b2); clear b2)
      have hB2 : B ≤ V2.heap.size := by have := BT.out.size; have := HB.out; omega
      have bt := (Below.refl V2.heap.size V2).alloc (Nat.le_refl _) (.cells #[.int .i64 qf, .int .i64 qt, .int .i64 qg, .int .i64 qk, .int .i64 qs] 46)
      have XT := hiddenN (blkA_new 46 V2 #[.int .i64 qf, .int .i64 qt, .int .i64 qg, .int .i64 qk, .int .i64 qs])
      have BU := hiddenN (BT.out.trans (bt.mono hB2))
      have T3 := hiddenN (T2.out.later bt)
      obtain ⟨tb, htb⟩ : ∃ q, V2.heap.size = q := ⟨_, rfl⟩
      rw [htb] at XT ⊢
      have NE1 : Hid (∀ y, d1 = some y → y.block ≠ tb) := fun y hy => by have := (T2.out.r1.lt y hy).2; omega
      have NE2 : Hid (∀ y, d2 = some y → y.block ≠ tb) := fun y hy => by have := (T2.out.r2.lt y hy).2; omega
      generalize V2.alloc (.cells #[.int .i64 qf, .int .i64 qt, .int .i64 qg, .int .i64 qk, .int .i64 qs] 46) = V3 at *
      have hB3 : B ≤ V3.heap.size := by have := BU.out.size; have := HB.out; omega
      clear bt htb BT T1 T2 s0 s1 y0 y1
      have x2 := XT.out.cell (k := 2) rfl
      simp only [List.getElem_toArray, List.getElem_cons_zero, List.getElem_cons_succ] at x2
      have bx := (Below.refl V3.heap.size V3).alloc (Nat.le_refl _) (.cells #[.int .i64 qg] 3)
      have CY := hiddenN ((blkA_new 3 V3 #[.int .i64 qg]).cell (k := 0) rfl)
      have CX := hiddenN (T3.out.later bx)
      have hsX : B ≤ (V3.alloc (.cells #[.int .i64 qg] 3)).heap.size := Nat.le_trans hB3 bx.size
      have BX := hiddenN (BU.out.trans (bx.mono hB3))
      have XTX := hiddenN (XT.out.below bx)
      clear bx T3 BU
      go_upto_region 6 with (at_builtin; refine wpList_appG rfl _ _ rfl B d1 c1 xs rfl CX.out.r1 V3.heap.size qg rfl CY.out (by omega) hsX ?_; intro d9 c9 V4 hG; have GR := hiddenN hG; clear hG)
      have T4 := hiddenN (CX.out.grow GR.out)
      have B4 := hiddenN (BX.out.trans (GR.out.below hsX (fun y hy => (CX.out.r1.lt y hy).1)))
      have XT4 := hiddenN (XTX.out.keep (GR.out.keep tb XTX.out.lt NE1.out))
      have hB4 : B ≤ V4.heap.size := by have := B4.out.size; have := HB.out; omega
      clear GR CX CY BX XTX hsX
      have x3 := XT4.out.cell (k := 3) rfl
      simp only [List.getElem_toArray, List.getElem_cons_zero, List.getElem_cons_succ] at x3
      have bx := (Below.refl V4.heap.size V4).alloc (Nat.le_refl _) (.cells #[.int .i64 qk] 3)
      have CY := hiddenN ((blkA_new 3 V4 #[.int .i64 qk]).cell (k := 0) rfl)
      have CX := hiddenN (T4.out.later bx).swap
      have hsX : B ≤ (V4.alloc (.cells #[.int .i64 qk] 3)).heap.size := Nat.le_trans hB4 bx.size
      have BX := hiddenN (B4.out.trans (bx.mono hB4))
      clear bx T4
      go_upto_region 7 with (at_builtin; refine wpList_appG rfl _ _ rfl B d2 c2 ys rfl CX.out.r1 V4.heap.size qk rfl CY.out (by omega) hsX ?_; intro d8 c8 V5 hG; have GR := hiddenN hG; clear hG)
      have T5 := hiddenN (CX.out.grow GR.out).swap
      have B5 := hiddenN (BX.out.trans (GR.out.below hsX (fun y hy => (CX.out.r1.lt y hy).1)))
      clear GR CX CY BX hsX
      go_wp2
      go_roundg (N - (k + 1))
      case measure => omega
      case rel => exact ⟨k + 1, d9, c9, d8, c8, by omega, rfl, by rw [GT1.out, List.length_append]; rfl, by rw [GT2.out, List.length_append]; rfl, by go_num, by rw [GT1.out, GT2.out]; exact T5.out, B5.out⟩
    · have ek : k = N := by omega
      subst ek
      have hki : ¬ (k : Int) < (k : Int) := by omega
      have eL : L.take k = L := by rw [← HLN.out, List.take_length]
      rw [eL] at T0 ⊢
      go_wp2
      rw [← HRE.out]
      exact ⟨d1, c1, d2, c2, rfl, ⟨T0.out.r1.mono (by have := B0.out.size; have := HB.out; omega), T0.out.r2.mono (by have := B0.out.size; have := HB.out; omega), T0.out.ne⟩, B0.out.trans (BR.out.mono (by have := B0.out.size; have := HB.out; omega))⟩
set_option maxRecDepth 100000 in
set_option maxHeartbeats 8000000 in
theorem isCycle_any (A : List NA) (m : Int) (a : Option Addr) (c : Nat) (L : List (Int × Bool)) (la : Option Addr) (lc : Nat) (w : World) (ha : AtN w a A) (hl : AtT w la L) (hN : L.length ≤ 4611686018427387904) (hcap : L.length ≤ lc) :
    Calls Try.prog 25 #[.agg #[.int .i64 m, .slice a A.length c], .slice la L.length lc] w fun e w' => e = .returned (.bool (cycW A L)) ∧ Below w.heap.size w w' := by
  have b0 := (Below.refl w.heap.size w).alloc (Nat.le_refl _) (.cells #[.int .i64 m, .slice a A.length c] 24)
  have X0 := hiddenN (blkA_new 24 w #[.int .i64 m, .slice a A.length c])
  have B0 := hiddenN b0
  have HA := hiddenN (ha.below b0)
  have HL := hiddenN (hl.below b0)
  have y0 := X0.out.cell (k := 0) rfl
  have y1 := X0.out.cell (k := 1) rfl
  simp only [List.getElem_toArray, List.getElem_cons_zero, List.getElem_cons_succ] at y0 y1
  clear b0 ha hl
  unfold cycW
  by_cases h0 : 0 < L.length
  · have AN : Hid (∀ U, Below (w.alloc (.cells #[.int .i64 m, .slice a A.length c] 24)).heap.size (w.alloc (.cells #[.int .i64 m, .slice a A.length c] 24)) U → Calls Try.prog 23 #[.agg #[.int .i64 m, .slice a A.length c], .slice la L.length lc] U fun e w' => e = .returned (.bool (nmW A L)) ∧ Below U.heap.size U w') := fun U hU => allNamed_any A m a c L la lc U (HA.out.below hU) (HL.out.below hU) hN
    cases h1 : nmW A L with
    | false =>
      rw [h1] at AN
      obtain ⟨N, hLN⟩ : ∃ N, L.length = N := ⟨_, rfl⟩
      rw [hLN] at AN h0 ⊢
      have hi : (0 : Int) < (N : Int) := by omega
      go_enter Try.func25, Try.ntmps25
      go_upto_region 1 with fail
      generalize w.alloc (.cells #[.int .i64 m, .slice a A.length c] 24) = W0 at *
      go_wp2_with (go_at_call 23; (with_reducible refine (AN.out W0 (Below.refl _ _)).mono ?_); rintro e V1 ⟨rfl, q1⟩; have L1 := hiddenN q1; clear q1)
      go_ret
      exact ⟨by simp; try rfl, B0.out.trans (L1.out.mono B0.out.size)⟩
    | true =>
      have LH : Hid (∀ U, Below (w.alloc (.cells #[.int .i64 m, .slice a A.length c] 24)).heap.size (w.alloc (.cells #[.int .i64 m, .slice a A.length c] 24)) U → Calls Try.prog 37 #[.agg #[.int .i64 m, .slice a A.length c], .slice la L.length lc] U fun e w' => e = .returned (.bool (hmW A L)) ∧ Below U.heap.size U w') := fun U hU => leadHome_any A m a c L la lc U (HA.out.below hU) (HL.out.below hU) hN h0 h1
      have TW : Hid (∀ U, Below (w.alloc (.cells #[.int .i64 m, .slice a A.length c] 24)).heap.size (w.alloc (.cells #[.int .i64 m, .slice a A.length c] 24)) U → Calls Try.prog 38 #[.agg #[.int .i64 m, .slice a A.length c], .slice la L.length lc] U fun e w' => e = .returned (.bool (twW A L)) ∧ Below U.heap.size U w') := fun U hU => anyTwice_any A m a c L la lc U (HA.out.below hU) (HL.out.below hU) hN hcap h1
      rw [h1] at AN
      obtain ⟨N, hLN⟩ : ∃ N, L.length = N := ⟨_, rfl⟩
      rw [hLN] at AN LH TW h0 ⊢
      have hi : (0 : Int) < (N : Int) := by omega
      cases h2 : hmW A L with
      | false =>
        rw [h2] at LH
        go_enter Try.func25, Try.ntmps25
        go_upto_region 1 with fail
        generalize w.alloc (.cells #[.int .i64 m, .slice a A.length c] 24) = W0 at *
        go_wp2_with (first
          | (go_at_call 23; (with_reducible refine (AN.out W0 (Below.refl _ _)).mono ?_); rintro e V1 ⟨rfl, q1⟩; have L1 := hiddenN q1; clear q1; have y0 := (X0.out.below L1.out).cell (k := 0) rfl; have y1 := (X0.out.below L1.out).cell (k := 1) rfl; simp only [List.getElem_toArray, List.getElem_cons_zero, List.getElem_cons_succ] at y0 y1)
          | (go_at_call 37; (with_reducible refine (LH.out V1 L1.out).mono ?_); rintro e V2 ⟨rfl, q2⟩; have L2 := hiddenN ((L1.out).trans (q2.mono (L1.out).size)); clear q2))
        go_ret
        exact ⟨by simp; try rfl, B0.out.trans (L2.out.mono B0.out.size)⟩
      | true =>
        rw [h2] at LH
        obtain ⟨tw, htw⟩ : ∃ b, twW A L = b := ⟨_, rfl⟩
        rw [htw] at TW ⊢
        go_enter Try.func25, Try.ntmps25
        go_upto_region 1 with fail
        generalize w.alloc (.cells #[.int .i64 m, .slice a A.length c] 24) = W0 at *
        go_wp2_with (first
          | (go_at_call 23; (with_reducible refine (AN.out W0 (Below.refl _ _)).mono ?_); rintro e V1 ⟨rfl, q1⟩; have L1 := hiddenN q1; clear q1; have y0 := (X0.out.below L1.out).cell (k := 0) rfl; have y1 := (X0.out.below L1.out).cell (k := 1) rfl; simp only [List.getElem_toArray, List.getElem_cons_zero, List.getElem_cons_succ] at y0 y1)
          | (go_at_call 37; (with_reducible refine (LH.out V1 L1.out).mono ?_); rintro e V2 ⟨rfl, q2⟩; have L2 := hiddenN ((L1.out).trans (q2.mono (L1.out).size)); clear q2; have y0 := (X0.out.below L2.out).cell (k := 0) rfl; have y1 := (X0.out.below L2.out).cell (k := 1) rfl; simp only [List.getElem_toArray, List.getElem_cons_zero, List.getElem_cons_succ] at y0 y1)
          | (go_at_call 38; (with_reducible refine (TW.out V2 L2.out).mono ?_); rintro e V3 ⟨rfl, q3⟩; have L3 := hiddenN ((L2.out).trans (q3.mono (L2.out).size)); clear q3))
        go_ret
        exact ⟨by simp [h0]; try rfl, B0.out.trans (L3.out.mono B0.out.size)⟩
  · obtain ⟨N, hLN⟩ : ∃ N, L.length = N := ⟨_, rfl⟩
    rw [hLN] at h0 ⊢
    have hi : ¬ (0 : Int) < (N : Int) := by omega
    go_enter Try.func25, Try.ntmps25
    go_wp2
    go_ret
    exact ⟨by simp, B0.out⟩
/-- How Products ends. -/
def ProE (w : World) (n : NN) (L : List (Int × Bool)) (e : Ending) (w' : World) : Prop := ∃ d1 c1 d2 c2, e = .returned (.tuple #[.slice d1 (if proW n L = 0 then gvW n.arcs L else []).length c1, .slice d2 (if proW n L = 0 then kpW n.arcs L else []).length c2, .int .i64 (proW n L)]) ∧ TwR w.heap.size w' d1 c1 (if proW n L = 0 then gvW n.arcs L else []) d2 c2 (if proW n L = 0 then kpW n.arcs L else []) ∧ Below w.heap.size w w'
theorem pro_no {w w' : World} {n : NN} {L : List (Int × Bool)} {E : Int} (hE : proW n L = E) (h0 : E ≠ 0) (hb : Below w.heap.size w w') : ProE w n L (.returned (.tuple #[.slice none 0 0, .slice none 0 0, .int .i64 E])) w' := by
  refine ⟨none, 0, none, 0, ?_, ?_, hb⟩
  · rw [hE, if_neg h0, if_neg h0]; rfl
  · rw [hE, if_neg h0, if_neg h0]; exact TwR.nil _ _
set_option maxRecDepth 100000 in
set_option maxHeartbeats 8000000 in
theorem products_any (n : NN) (a : Option Addr) (c : Nat) (L : List (Int × Bool)) (la : Option Addr) (lc : Nat) (w : World) (ha : AtN w a n.arcs) (hln : n.arcs.length ≤ 4611686018427387904) (hl : AtT w la L) (hN : L.length ≤ 4611686018427387904) :
    Calls Try.prog 10 #[.agg #[.int .i64 n.nodes, .slice a n.arcs.length c], .slice la L.length lc] w (ProE w n L) := by
  have b0 := (Below.refl w.heap.size w).alloc (Nat.le_refl _) (.cells #[.int .i64 n.nodes, .slice a n.arcs.length c] 24)
  have X0 := hiddenN (blkA_new 24 w #[.int .i64 n.nodes, .slice a n.arcs.length c])
  have B0 := hiddenN b0
  have HA := hiddenN (ha.below b0)
  have HL := hiddenN (hl.below b0)
  have CH := hiddenN (checkN_any n a c _ (ha.below b0) hln)
  have y0 := X0.out.cell (k := 0) rfl
  have y1 := X0.out.cell (k := 1) rfl
  simp only [List.getElem_toArray, List.getElem_cons_zero, List.getElem_cons_succ] at y0 y1
  clear b0 ha hl
  obtain ⟨RE, hRE⟩ : ∃ R, ProE w n L = R := ⟨_, rfl⟩
  rw [hRE]
  have HRE := hiddenN hRE
  obtain ⟨E, hE⟩ : ∃ E, proW n L = E := ⟨_, rfl⟩
  have HE := hiddenN hE
  unfold proW at hE
  clear hRE
  by_cases hc : checkN n = 0
  · rw [if_pos hc] at hE
    rw [hc] at CH
    by_cases hlong : 96 < L.length
    · rw [if_pos hlong] at hE
      subst hE
      have hi : (96 : Int) < (L.length : Int) := by omega
      generalize L.length = N at *
      go_enter Try.func10, Try.ntmps10
      go_upto_region 1 with fail
      generalize w.alloc (.cells #[.int .i64 n.nodes, .slice a n.arcs.length c] 24) = W0 at *
      go_wp2_with (go_at_call 22; (with_reducible refine CH.out.mono ?_); rintro e V1 ⟨rfl, q1⟩; have L1 := hiddenN (B0.out.trans (q1.mono B0.out.size)); clear q1)
      rw [← HRE.out]
      exact pro_no HE.out (by decide) L1.out
    · rw [if_neg hlong] at hE
      have AN : Hid (∀ U, Below (w.alloc (.cells #[.int .i64 n.nodes, .slice a n.arcs.length c] 24)).heap.size (w.alloc (.cells #[.int .i64 n.nodes, .slice a n.arcs.length c] 24)) U → Calls Try.prog 23 #[.agg #[.int .i64 n.nodes, .slice a n.arcs.length c], .slice la L.length lc] U fun e w' => e = .returned (.bool (nmW n.arcs L)) ∧ Below U.heap.size U w') := fun U hU => allNamed_any n.arcs n.nodes a c L la lc U (HA.out.below hU) (HL.out.below hU) hN
      have hi : ¬ (96 : Int) < (L.length : Int) := by omega
      cases h1 : nmW n.arcs L with
      | false =>
        rw [h1] at AN hE
        simp only [Bool.false_eq_true, if_false] at hE
        subst hE
        generalize L.length = N at *
        go_enter Try.func10, Try.ntmps10
        go_upto_region 1 with fail
        generalize w.alloc (.cells #[.int .i64 n.nodes, .slice a n.arcs.length c] 24) = W0 at *
        go_wp2_with (first
          | (go_at_call 22; (with_reducible refine CH.out.mono ?_); rintro e V1 ⟨rfl, q1⟩; have L1 := hiddenN q1; clear q1; have y0 := (X0.out.below L1.out).cell (k := 0) rfl; have y1 := (X0.out.below L1.out).cell (k := 1) rfl; simp only [List.getElem_toArray, List.getElem_cons_zero, List.getElem_cons_succ] at y0 y1)
          | (go_at_call 23; (with_reducible refine (AN.out V1 L1.out).mono ?_); rintro e V2 ⟨rfl, q2⟩; have L2 := hiddenN ((L1.out).trans (q2.mono (L1.out).size)); clear q2))
        rw [← HRE.out]
        exact pro_no HE.out (by decide) (B0.out.trans (L2.out.mono B0.out.size))
      | true =>
        have RA : Hid (∀ U, Below (w.alloc (.cells #[.int .i64 n.nodes, .slice a n.arcs.length c] 24)).heap.size (w.alloc (.cells #[.int .i64 n.nodes, .slice a n.arcs.length c] 24)) U → Calls Try.prog 24 #[.agg #[.int .i64 n.nodes, .slice a n.arcs.length c], .slice la L.length lc] U (RatE U (gvW n.arcs L) (kpW n.arcs L))) := fun U hU => rates_any n.arcs n.nodes a c L la lc U (HA.out.below hU) (HL.out.below hU) (by omega) h1
        unfold RatE at RA
        rw [h1] at AN hE
        simp only [if_true] at hE
        subst hE
        generalize L.length = N at *
        go_enter Try.func10, Try.ntmps10
        go_upto_region 1 with fail
        generalize w.alloc (.cells #[.int .i64 n.nodes, .slice a n.arcs.length c] 24) = W0 at *
        go_wp2_with (first
          | (go_at_call 22; (with_reducible refine CH.out.mono ?_); rintro e V1 ⟨rfl, q1⟩; have L1 := hiddenN q1; clear q1; have y0 := (X0.out.below L1.out).cell (k := 0) rfl; have y1 := (X0.out.below L1.out).cell (k := 1) rfl; simp only [List.getElem_toArray, List.getElem_cons_zero, List.getElem_cons_succ] at y0 y1)
          | (go_at_call 23; (with_reducible refine (AN.out V1 L1.out).mono ?_); rintro e V2 ⟨rfl, q2⟩; have L2 := hiddenN ((L1.out).trans (q2.mono (L1.out).size)); clear q2; have y0 := (X0.out.below L2.out).cell (k := 0) rfl; have y1 := (X0.out.below L2.out).cell (k := 1) rfl; simp only [List.getElem_toArray, List.getElem_cons_zero, List.getElem_cons_succ] at y0 y1)
          | (go_at_call 24; (with_reducible refine (RA.out V2 L2.out).mono ?_); rintro e V3 ⟨d1, c1, d2, c2, rfl, q3, q4⟩; have R3 := hiddenN q3; have L3 := hiddenN (L2.out.trans (q4.mono L2.out.size)); clear q3 q4))
        rw [← HRE.out]
        have hs : w.heap.size ≤ V2.heap.size := Nat.le_trans B0.out.size L2.out.size
        refine ⟨d1, c1, d2, c2, ?_, ?_, B0.out.trans (L3.out.mono B0.out.size)⟩
        · rw [HE.out, if_pos rfl, if_pos rfl]
          rfl
        · rw [HE.out, if_pos rfl, if_pos rfl]
          exact ⟨R3.out.r1.mono hs, R3.out.r2.mono hs, R3.out.ne⟩
  · rw [if_neg hc] at hE
    have hne : (checkN n != 0) = true := by simpa using hc
    rw [hE] at CH hne hc
    clear hE
    generalize L.length = N at *
    go_enter Try.func10, Try.ntmps10
    go_upto_region 1 with fail
    generalize w.alloc (.cells #[.int .i64 n.nodes, .slice a n.arcs.length c] 24) = W0 at *
    go_wp2_with (go_at_call 22; (with_reducible refine CH.out.mono ?_); rintro e V1 ⟨rfl, q1⟩; have L1 := hiddenN (B0.out.trans (q1.mono B0.out.size)); clear q1)
    rw [← HRE.out]
    exact pro_no HE.out hc L1.out
theorem posB_of : ∀ {zs : List Int}, (∀ z, z ∈ zs → 1 ≤ z) → posB zs = true
  | [], _ => rfl
  | z :: zs, h => by
    unfold posB
    have h1 := h z (List.mem_cons_self ..)
    have h2 := posB_of fun y hy => h y (List.mem_cons_of_mem _ hy)
    simp [h2]
    omega
theorem inR_of {zs : List Int} (h : ∀ z, z ∈ zs → 0 ≤ z ∧ z ≤ 1000) : InR zs := by
  intro k
  unfold nth
  rw [List.getD_eq_getElem?_getD]
  by_cases hk : k < zs.length
  · rw [List.getElem?_eq_getElem hk]
    have := h _ (List.getElem_mem hk)
    simp only [Option.getD_some]
    omega
  · rw [List.getElem?_eq_none (by omega)]
    decide
theorem SoundN.taken {n : NN} (h : SoundN n) {x : Int × Bool} (hx : inW n.arcs x = true) : (1 ≤ (tkW n.arcs x).g ∧ (tkW n.arcs x).g ≤ 64) ∧ (1 ≤ (tkW n.arcs x).k ∧ (tkW n.arcs x).k ≤ 64) ∧ (0 ≤ stW n.arcs x ∧ stW n.arcs x < n.nodes) ∧ (0 ≤ enW n.arcs x ∧ enW n.arcs x < n.nodes) := by
  obtain ⟨h1, h2⟩ := inW_iff.1 hx
  have hs := h.arcs x.1.toNat (by omega)
  unfold stW enW tkW
  split
  · exact ⟨hs.k, hs.g, hs.t, hs.f⟩
  · exact ⟨hs.g, hs.k, hs.f, hs.t⟩
theorem SoundN.rates {n : NN} (h : SoundN n) {L : List (Int × Bool)} (hm : nmW n.arcs L = true) : (∀ z, z ∈ gvW n.arcs L → 1 ≤ z ∧ z ≤ 64) ∧ (∀ z, z ∈ kpW n.arcs L → 1 ≤ z ∧ z ≤ 64) := by
  constructor
  · intro z hz
    obtain ⟨x, hx, rfl⟩ := List.mem_map.1 hz
    exact (h.taken (nm_iff.1 hm x hx)).1
  · intro z hz
    obtain ⟨x, hx, rfl⟩ := List.mem_map.1 hz
    exact (h.taken (nm_iff.1 hm x hx)).2.1
theorem cyc_named {A : List NA} {L : List (Int × Bool)} (h : cycW A L = true) : nmW A L = true := nm_iff.2 (cyc_iff.1 h).named
theorem rates_eq {n : NN} (h : SoundN n) {L : List (Int × Bool)} (hm : nmW n.arcs L = true) (hl : L.length ≤ 1000) : cE (gvW n.arcs L) (kpW n.arcs L) = 0 ∧ eqB (gvW n.arcs L) (kpW n.arcs L) = alW n.arcs L ∧ InR (gvW n.arcs L) ∧ InR (kpW n.arcs L) := by
  obtain ⟨r1, r2⟩ := h.rates hm
  have e : cE (gvW n.arcs L) (kpW n.arcs L) = 0 := cE_ok (by rw [gv_len]; omega) (by rw [kp_len]; omega) (by rw [posB_of fun z hz => (r1 z hz).1, posB_of fun z hz => (r2 z hz).1]; rfl)
  refine ⟨e, ?_, inR_of fun z hz => ?_, inR_of fun z hz => ?_⟩
  · unfold eqB alW
    rw [decide_eq_true e, Bool.true_and]
  · have := r1 z hz; omega
  · have := r2 z hz; omega
set_option maxRecDepth 100000 in
set_option maxHeartbeats 8000000 in
theorem confirm_any (n : NN) (a : Option Addr) (c : Nat) (L : List (Int × Bool)) (la : Option Addr) (lc : Nat) (w : World) (ha : AtN w a n.arcs) (hln : n.arcs.length ≤ 4611686018427387904) (hl : AtT w la L) (hN : L.length ≤ 4611686018427387904) (hcap : L.length ≤ lc) :
    Calls Try.prog 16 #[.agg #[.int .i64 n.nodes, .slice a n.arcs.length c], .slice la L.length lc] w fun e w' => e = .returned (.int .i64 (conW n L)) ∧ Below w.heap.size w w' := by
  have b0 := (Below.refl w.heap.size w).alloc (Nat.le_refl _) (.cells #[.int .i64 n.nodes, .slice a n.arcs.length c] 24)
  have X0 := hiddenN (blkA_new 24 w #[.int .i64 n.nodes, .slice a n.arcs.length c])
  have B0 := hiddenN b0
  have HA := hiddenN (ha.below b0)
  have HL := hiddenN (hl.below b0)
  have CH := hiddenN (checkN_any n a c _ (ha.below b0) hln)
  have IC : Hid (∀ U, Below (w.alloc (.cells #[.int .i64 n.nodes, .slice a n.arcs.length c] 24)).heap.size (w.alloc (.cells #[.int .i64 n.nodes, .slice a n.arcs.length c] 24)) U → Calls Try.prog 25 #[.agg #[.int .i64 n.nodes, .slice a n.arcs.length c], .slice la L.length lc] U fun e w' => e = .returned (.bool (cycW n.arcs L)) ∧ Below U.heap.size U w') := fun U hU => isCycle_any n.arcs n.nodes a c L la lc U (HA.out.below hU) (HL.out.below hU) hN hcap
  have y0 := X0.out.cell (k := 0) rfl
  have y1 := X0.out.cell (k := 1) rfl
  simp only [List.getElem_toArray, List.getElem_cons_zero, List.getElem_cons_succ] at y0 y1
  clear b0 ha hl
  obtain ⟨E, hE⟩ : ∃ E, conW n L = E := ⟨_, rfl⟩
  rw [hE]
  unfold conW at hE
  by_cases hc : checkN n = 0
  · rw [if_pos hc] at hE
    rw [hc] at CH
    cases h1 : cycW n.arcs L with
    | false =>
      rw [h1] at IC hE
      simp only [Bool.false_eq_true, if_false] at hE
      subst hE
      generalize L.length = N at *
      go_enter Try.func16, Try.ntmps16
      go_upto_region 1 with fail
      generalize w.alloc (.cells #[.int .i64 n.nodes, .slice a n.arcs.length c] 24) = W0 at *
      go_wp2_with (first
        | (go_at_call 22; (with_reducible refine CH.out.mono ?_); rintro e V1 ⟨rfl, q1⟩; have L1 := hiddenN q1; clear q1; have y0 := (X0.out.below L1.out).cell (k := 0) rfl; have y1 := (X0.out.below L1.out).cell (k := 1) rfl; simp only [List.getElem_toArray, List.getElem_cons_zero, List.getElem_cons_succ] at y0 y1)
        | (go_at_call 25; (with_reducible refine (IC.out V1 L1.out).mono ?_); rintro e V2 ⟨rfl, q2⟩; have L2 := hiddenN (L1.out.trans (q2.mono L1.out.size)); clear q2; have y0 := (X0.out.below L2.out).cell (k := 0) rfl; have y1 := (X0.out.below L2.out).cell (k := 1) rfl; simp only [List.getElem_toArray, List.getElem_cons_zero, List.getElem_cons_succ] at y0 y1))
      go_ret
      exact ⟨rfl, B0.out.trans (L2.out.mono B0.out.size)⟩
    | true =>
      have hS := check_sound hc
      have hlen : L.length ≤ 1000 := by have := (cyc_iff.1 h1).few; have := hS.most; omega
      obtain ⟨r0, r1, r2, r3⟩ := rates_eq hS (cyc_named h1) hlen
      have RA : Hid (∀ U, Below (w.alloc (.cells #[.int .i64 n.nodes, .slice a n.arcs.length c] 24)).heap.size (w.alloc (.cells #[.int .i64 n.nodes, .slice a n.arcs.length c] 24)) U → Calls Try.prog 24 #[.agg #[.int .i64 n.nodes, .slice a n.arcs.length c], .slice la L.length lc] U (RatE U (gvW n.arcs L) (kpW n.arcs L))) := fun U hU => rates_any n.arcs n.nodes a c L la lc U (HA.out.below hU) (HL.out.below hU) hlen (cyc_named h1)
      have EQ : Hid (∀ U d1 c1 d2 c2, At U d1 (gvW n.arcs L) → At U d2 (kpW n.arcs L) → Calls Try.prog 26 #[.slice d1 (gvW n.arcs L).length c1, .slice d2 (kpW n.arcs L).length c2] U fun e w' => e = .returned (.tuple #[.bool (alW n.arcs L), .int .i64 0]) ∧ Below U.heap.size U w') := fun U d1 c1 d2 c2 g1 g2 => by
        have q := equal_any d1 d2 (gvW n.arcs L) (kpW n.arcs L) _ c1 _ c2 U rfl rfl (by rw [gv_len]; omega) (by rw [kp_len]; omega) r2 r3 g1 g2
        unfold EqEnd at q
        rw [r0, r1] at q
        exact q
      unfold RatE at RA
      rw [h1] at IC hE
      simp only [if_true] at hE
      clear hS r0 r1 r2 r3 hc h1
      generalize gvW n.arcs L = xs at *
      generalize kpW n.arcs L = ys at *
      cases h2 : alW n.arcs L with
      | false =>
        rw [h2] at EQ hE
        simp only [Bool.false_eq_true, if_false] at hE
        subst hE
        generalize L.length = N at *
        go_enter Try.func16, Try.ntmps16
        go_upto_region 1 with fail
        generalize w.alloc (.cells #[.int .i64 n.nodes, .slice a n.arcs.length c] 24) = W0 at *
        go_wp2_with (first
          | (go_at_call 22; (with_reducible refine CH.out.mono ?_); rintro e V1 ⟨rfl, q1⟩; have L1 := hiddenN q1; clear q1; have y0 := (X0.out.below L1.out).cell (k := 0) rfl; have y1 := (X0.out.below L1.out).cell (k := 1) rfl; simp only [List.getElem_toArray, List.getElem_cons_zero, List.getElem_cons_succ] at y0 y1)
          | (go_at_call 25; (with_reducible refine (IC.out V1 L1.out).mono ?_); rintro e V2 ⟨rfl, q2⟩; have L2 := hiddenN (L1.out.trans (q2.mono L1.out.size)); clear q2; have y0 := (X0.out.below L2.out).cell (k := 0) rfl; have y1 := (X0.out.below L2.out).cell (k := 1) rfl; simp only [List.getElem_toArray, List.getElem_cons_zero, List.getElem_cons_succ] at y0 y1)
          | (go_at_call 24; (with_reducible refine (RA.out V2 L2.out).mono ?_); rintro e V3 ⟨d1, c1, d2, c2, rfl, q3, q4⟩; have R1 := hiddenN q3.r1.at; have R2 := hiddenN q3.r2.at; have L3 := hiddenN (L2.out.trans (q4.mono L2.out.size)); clear q3 q4)
          | (go_at_call 26; (with_reducible refine (EQ.out V3 d1 c1 d2 c2 R1.out R2.out).mono ?_); rintro e V4 ⟨rfl, q4⟩; have L4 := hiddenN (L3.out.trans (q4.mono L3.out.size)); clear q4))
        go_ret
        exact ⟨rfl, B0.out.trans (L4.out.mono B0.out.size)⟩
      | true =>
        rw [h2] at EQ hE
        simp only [if_true] at hE
        subst hE
        generalize L.length = N at *
        go_enter Try.func16, Try.ntmps16
        go_upto_region 1 with fail
        generalize w.alloc (.cells #[.int .i64 n.nodes, .slice a n.arcs.length c] 24) = W0 at *
        go_wp2_with (first
          | (go_at_call 22; (with_reducible refine CH.out.mono ?_); rintro e V1 ⟨rfl, q1⟩; have L1 := hiddenN q1; clear q1; have y0 := (X0.out.below L1.out).cell (k := 0) rfl; have y1 := (X0.out.below L1.out).cell (k := 1) rfl; simp only [List.getElem_toArray, List.getElem_cons_zero, List.getElem_cons_succ] at y0 y1)
          | (go_at_call 25; (with_reducible refine (IC.out V1 L1.out).mono ?_); rintro e V2 ⟨rfl, q2⟩; have L2 := hiddenN (L1.out.trans (q2.mono L1.out.size)); clear q2; have y0 := (X0.out.below L2.out).cell (k := 0) rfl; have y1 := (X0.out.below L2.out).cell (k := 1) rfl; simp only [List.getElem_toArray, List.getElem_cons_zero, List.getElem_cons_succ] at y0 y1)
          | (go_at_call 24; (with_reducible refine (RA.out V2 L2.out).mono ?_); rintro e V3 ⟨d1, c1, d2, c2, rfl, q3, q4⟩; have R1 := hiddenN q3.r1.at; have R2 := hiddenN q3.r2.at; have L3 := hiddenN (L2.out.trans (q4.mono L2.out.size)); clear q3 q4)
          | (go_at_call 26; (with_reducible refine (EQ.out V3 d1 c1 d2 c2 R1.out R2.out).mono ?_); rintro e V4 ⟨rfl, q4⟩; have L4 := hiddenN (L3.out.trans (q4.mono L3.out.size)); clear q4))
        go_ret
        exact ⟨rfl, B0.out.trans (L4.out.mono B0.out.size)⟩
  · rw [if_neg hc] at hE
    have hne : (checkN n != 0) = true := by simpa using hc
    rw [hE] at CH hne
    clear hE hc
    generalize L.length = N at *
    go_enter Try.func16, Try.ntmps16
    go_upto_region 1 with fail
    generalize w.alloc (.cells #[.int .i64 n.nodes, .slice a n.arcs.length c] 24) = W0 at *
    go_wp2_with (go_at_call 22; (with_reducible refine CH.out.mono ?_); rintro e V1 ⟨rfl, q1⟩; have L1 := hiddenN q1; clear q1; have y0 := (X0.out.below L1.out).cell (k := 0) rfl; have y1 := (X0.out.below L1.out).cell (k := 1) rfl; simp only [List.getElem_toArray, List.getElem_cons_zero, List.getElem_cons_succ] at y0 y1)
    go_ret
    exact ⟨rfl, B0.out.trans (L1.out.mono B0.out.size)⟩
def netWit : NN := ⟨1, [⟨0, 0, 2, 1, 0⟩, ⟨0, 0, 2, 2, 0⟩]⟩
theorem wakeW_pro : proW netWit [(0, true)] = 0 := by decide
theorem wakeW_rates : gvW netWit.arcs [(0, true)] = [1] ∧ kpW netWit.arcs [(0, true)] = [2] := by decide
theorem wakeW_con0 : conW netWit [(0, false)] = 0 := by decide
theorem wakeW_con1 : conW netWit [(1, false)] = 121 := by decide
theorem wakeW_at (w : World) : AtN ((w.alloc (.cells #[.int .i64 0, .int .i64 0, .int .i64 2, .int .i64 1, .int .i64 0, .int .i64 0, .int .i64 0, .int .i64 2, .int .i64 2, .int .i64 0] 46)).alloc (.cells #[.int .i64 1, .slice (some ⟨w.heap.size, 0, none⟩) 2 2] 24)) (some ⟨w.heap.size, 0, none⟩) netWit.arcs := by
  have bx := (blkA_new 46 w #[.int .i64 0, .int .i64 0, .int .i64 2, .int .i64 1, .int .i64 0, .int .i64 0, .int .i64 0, .int .i64 2, .int .i64 2, .int .i64 0]).below ((Below.refl _ _).alloc (Nat.le_refl _) (.cells #[.int .i64 1, .slice (some ⟨w.heap.size, 0, none⟩) 2 2] 24))
  refine .inr ⟨w.heap.size, 0, rfl, fun k hk => ?_⟩
  match k, hk with
  | 0, _ => exact ⟨bx.cell rfl, bx.cell rfl, bx.cell rfl, bx.cell rfl, bx.cell rfl⟩
  | 1, _ => exact ⟨bx.cell rfl, bx.cell rfl, bx.cell rfl, bx.cell rfl, bx.cell rfl⟩
theorem step_one (U : World) (z : Int) (b : Bool) : AtT (U.alloc (.cells #[.int .i64 z, .bool b] 43)) (some ⟨U.heap.size, 0, none⟩) [(z, b)] := by
  have x9 := blkA_new 43 U #[.int .i64 z, .bool b]
  exact .inr ⟨U.heap.size, 0, rfl, fun k hk => by match k, hk with | 0, _ => exact ⟨x9.cell rfl, x9.cell rfl⟩⟩
set_option maxRecDepth 100000 in
set_option maxHeartbeats 8000000 in
theorem awakeW (w : World) : Calls Try.prog 14 #[] w fun e w' => e = .returned (.bool true) ∧ Below w.heap.size w w' := by
  have b1 := (Below.refl w.heap.size w).alloc (Nat.le_refl _) (.cells #[.int .i64 0, .int .i64 0, .int .i64 2, .int .i64 1, .int .i64 0, .int .i64 0, .int .i64 0, .int .i64 2, .int .i64 2, .int .i64 0] 46)
  have b2 := b1.alloc b1.size (.cells #[.int .i64 1, .slice (some ⟨w.heap.size, 0, none⟩) 2 2] 24)
  have s1 : (w.alloc (.cells #[.int .i64 0, .int .i64 0, .int .i64 2, .int .i64 1, .int .i64 0, .int .i64 0, .int .i64 0, .int .i64 2, .int .i64 2, .int .i64 0] 46)).heap.size = w.heap.size + 1 := World.size_alloc _ _
  have xn := blkA_new 24 (w.alloc (.cells #[.int .i64 0, .int .i64 0, .int .i64 2, .int .i64 1, .int .i64 0, .int .i64 0, .int .i64 0, .int .i64 2, .int .i64 2, .int .i64 0] 46)) #[.int .i64 1, .slice (some ⟨w.heap.size, 0, none⟩) 2 2]
  rw [s1] at xn
  have XN := hiddenN xn
  have L0 := hiddenN b2
  have HA := hiddenN (wakeW_at w)
  have PR : Hid (∀ U, AtN U (some ⟨w.heap.size, 0, none⟩) netWit.arcs → Calls Try.prog 10 #[.agg #[.int .i64 1, .slice (some ⟨w.heap.size, 0, none⟩) 2 2], .slice (some ⟨U.heap.size, 0, none⟩) 1 1] (U.alloc (.cells #[.int .i64 0, .bool true] 43)) fun e w' => ∃ d1 c1 d2 c2, e = .returned (.tuple #[.slice d1 1 c1, .slice d2 1 c2, .int .i64 0]) ∧ At w' d1 [1] ∧ At w' d2 [2] ∧ Below U.heap.size U w') := fun U hU => by
    have bb := (Below.refl U.heap.size U).alloc (Nat.le_refl _) (.cells #[.int .i64 0, .bool true] 43)
    refine (products_any netWit (some ⟨w.heap.size, 0, none⟩) 2 [(0, true)] (some ⟨U.heap.size, 0, none⟩) 1 _ (hU.below bb) (by decide) (step_one U 0 true) (by decide)).mono fun e w' hh => ?_
    obtain ⟨d1, c1, d2, c2, h1, h2, h3⟩ := hh
    rw [wakeW_pro, if_pos rfl, if_pos rfl, wakeW_rates.1, wakeW_rates.2] at h1 h2
    exact ⟨d1, c1, d2, c2, h1, h2.r1.at, h2.r2.at, bb.trans (h3.mono bb.size)⟩
  have S1 : Hid (∀ (U : World) (a : Option Addr) (c : Nat), At U a [1] → Calls Try.prog 11 #[.slice a 1 c, .slice (some ⟨U.heap.size, 0, none⟩) 1 1] (U.alloc (.cells #[.int .i64 1] 3)) fun e w' => e = .returned (.bool true) ∧ Below U.heap.size U w') := fun U a c h => by
    have bb := (Below.refl U.heap.size U).alloc (Nat.le_refl _) (.cells #[.int .i64 1] 3)
    have x9 := blkA_new 3 U #[.int .i64 1]
    exact (sameN _ a (some ⟨U.heap.size, 0, none⟩) [1] c 1 (by decide) (h.below bb) (.inr ⟨U.heap.size, 0, rfl, fun k hk => by match k, hk with | 0, _ => exact x9.cell rfl⟩)).mono fun e w' hh => ⟨hh.1, bb.trans (hh.2.mono bb.size)⟩
  have S2 : Hid (∀ (U : World) (a : Option Addr) (c : Nat), At U a [2] → Calls Try.prog 11 #[.slice a 1 c, .slice (some ⟨U.heap.size, 0, none⟩) 1 1] (U.alloc (.cells #[.int .i64 2] 3)) fun e w' => e = .returned (.bool true) ∧ Below U.heap.size U w') := fun U a c h => by
    have bb := (Below.refl U.heap.size U).alloc (Nat.le_refl _) (.cells #[.int .i64 2] 3)
    have x9 := blkA_new 3 U #[.int .i64 2]
    exact (sameN _ a (some ⟨U.heap.size, 0, none⟩) [2] c 1 (by decide) (h.below bb) (.inr ⟨U.heap.size, 0, rfl, fun k hk => by match k, hk with | 0, _ => exact x9.cell rfl⟩)).mono fun e w' hh => ⟨hh.1, bb.trans (hh.2.mono bb.size)⟩
  have C0 : Hid (∀ U, AtN U (some ⟨w.heap.size, 0, none⟩) netWit.arcs → Calls Try.prog 16 #[.agg #[.int .i64 1, .slice (some ⟨w.heap.size, 0, none⟩) 2 2], .slice (some ⟨U.heap.size, 0, none⟩) 1 1] (U.alloc (.cells #[.int .i64 0, .bool false] 43)) fun e w' => e = .returned (.int .i64 0) ∧ Below U.heap.size U w') := fun U hU => by
    have bb := (Below.refl U.heap.size U).alloc (Nat.le_refl _) (.cells #[.int .i64 0, .bool false] 43)
    have q := confirm_any netWit (some ⟨w.heap.size, 0, none⟩) 2 [(0, false)] (some ⟨U.heap.size, 0, none⟩) 1 _ (hU.below bb) (by decide) (step_one U 0 false) (by decide) (by decide)
    rw [wakeW_con0] at q
    exact q.mono fun e w' hh => ⟨hh.1, bb.trans (hh.2.mono bb.size)⟩
  have C1 : Hid (∀ U, AtN U (some ⟨w.heap.size, 0, none⟩) netWit.arcs → Calls Try.prog 16 #[.agg #[.int .i64 1, .slice (some ⟨w.heap.size, 0, none⟩) 2 2], .slice (some ⟨U.heap.size, 0, none⟩) 1 1] (U.alloc (.cells #[.int .i64 1, .bool false] 43)) fun e w' => e = .returned (.int .i64 121) ∧ Below U.heap.size U w') := fun U hU => by
    have bb := (Below.refl U.heap.size U).alloc (Nat.le_refl _) (.cells #[.int .i64 1, .bool false] 43)
    have q := confirm_any netWit (some ⟨w.heap.size, 0, none⟩) 2 [(1, false)] (some ⟨U.heap.size, 0, none⟩) 1 _ (hU.below bb) (by decide) (step_one U 1 false) (by decide) (by decide)
    rw [wakeW_con1] at q
    exact q.mono fun e w' hh => ⟨hh.1, bb.trans (hh.2.mono bb.size)⟩
  clear b1 b2 s1 xn
  go_enter Try.func14, Try.ntmps14
  go_upto_region 2 with fail
  generalize ((w.alloc (.cells #[.int .i64 0, .int .i64 0, .int .i64 2, .int .i64 1, .int .i64 0, .int .i64 0, .int .i64 0, .int .i64 2, .int .i64 2, .int .i64 0] 46)).alloc (.cells #[.int .i64 1, .slice (some ⟨w.heap.size, 0, none⟩) 2 2] 24)) = W0 at *
  have y0 := XN.out.cell (k := 0) rfl
  have y1 := XN.out.cell (k := 1) rfl
  simp only [List.getElem_toArray, List.getElem_cons_zero, List.getElem_cons_succ] at y0 y1
  go_upto_region 3 with (go_at_call 10; (with_reducible refine (PR.out _ HA.out).mono ?_); rintro e W1 ⟨d1, c1, d2, c2, rfl, q1, q2, b1⟩; have T1 := hiddenN q1; have H1 := hiddenN q2; have L1 := hiddenN (L0.out.trans (b1.mono L0.out.size)); have X1 := hiddenN (XN.out.below b1); have A1 := hiddenN (HA.out.below b1); clear q1 q2 b1 y0 y1)
  clear PR XN HA L0
  go_wp2_with (first
    | (go_at_call 16; (with_reducible refine (C1.out _ A4.out).mono ?_); rintro e W5 ⟨rfl, b5⟩; have L5 := hiddenN (L4.out.trans (b5.mono L4.out.size)); clear b5)
    | (go_at_call 16; (with_reducible refine (C0.out _ A3.out).mono ?_); rintro e W4 ⟨rfl, b4⟩; have L4 := hiddenN (L3.out.trans (b4.mono L3.out.size)); have A4 := hiddenN (A3.out.below b4); have X4 := hiddenN (X3.out.below b4); have z0 := X4.out.cell (k := 0) rfl; have z1 := X4.out.cell (k := 1) rfl; simp only [List.getElem_toArray, List.getElem_cons_zero, List.getElem_cons_succ] at z0 z1; clear b4 y0 y1)
    | (go_at_call 11; (with_reducible refine (S2.out _ d2 c2 H2.out).mono ?_); rintro e W3 ⟨rfl, b3⟩; have L3 := hiddenN (L2.out.trans (b3.mono L2.out.size)); have A3 := hiddenN (A2.out.below b3); have X3 := hiddenN (X2.out.below b3); have y0 := X3.out.cell (k := 0) rfl; have y1 := X3.out.cell (k := 1) rfl; simp only [List.getElem_toArray, List.getElem_cons_zero, List.getElem_cons_succ] at y0 y1; clear b3)
    | (go_at_call 11; (with_reducible refine (S1.out _ d1 c1 T1.out).mono ?_); rintro e W2 ⟨rfl, b2⟩; have L2 := hiddenN (L1.out.trans (b2.mono L1.out.size)); have A2 := hiddenN (A1.out.below b2); have X2 := hiddenN (X1.out.below b2); have H2 := hiddenN (H1.out.below b2); clear b2))
  go_ret
  exact ⟨rfl, L5.out⟩
theorem AtT.drop {w : World} {b off : Nat} {L : List (Int × Bool)} (h : AtT w (some ⟨b, off, none⟩) L) (k : Nat) : AtT w (some ⟨b, off + k * 2, none⟩) (L.drop k) := by
  rcases h with e | ⟨b', off', e, hc⟩
  · rw [e]; exact .inl List.drop_nil
  · cases e
    refine .inr ⟨b, off + k * 2, rfl, fun j hj => ?_⟩
    have hl : k + j < L.length := by rw [List.length_drop] at hj; omega
    have e1 : nthT (L.drop k) j = nthT L (k + j) := by unfold nthT; rw [List.getD_eq_getElem?_getD, List.getD_eq_getElem?_getD, List.getElem?_drop]
    have e2 : off + k * 2 + j * 2 = off + (k + j) * 2 := by omega
    rw [e1, e2]
    exact hc (k + j) hl
theorem AtT.take {w : World} {a : Option Addr} {L : List (Int × Bool)} (h : AtT w a L) (k : Nat) (hk : k ≤ L.length) : AtT w a (L.take k) := by
  rcases h with e | ⟨b, off, e, hc⟩
  · rw [e]; exact .inl List.take_nil
  · refine .inr ⟨b, off, e, fun j hj => ?_⟩
    rw [List.length_take] at hj
    have e1 : nthT (L.take k) j = nthT L j := by unfold nthT; rw [List.getD_eq_getElem?_getD, List.getD_eq_getElem?_getD, List.getElem?_take_of_lt (by omega)]
    rw [e1]
    exact hc j (by omega)
set_option maxRecDepth 100000 in
set_option maxHeartbeats 4000000 in
theorem steps_any (L : List (Int × Bool)) (la : Option Addr) (len lc : Nat) (w : World) (h : ArgT w la len lc L) : Calls Try.prog 9 #[.slice la L.length lc] w (RowT w L) := by
  have hr := h.room
  have HN := hiddenN h.none
  have HL := hiddenN h.lies
  obtain ⟨RE, hRE⟩ : ∃ R, RowT w L = R := ⟨_, rfl⟩
  rw [hRE]
  have HRE := hiddenN hRE
  clear hRE h
  go_enter Try.func9, Try.ntmps9
  go_wp2_with (at_builtin; refine wpList_appT rfl _ _ rfl w.heap.size none 0 [] rfl (CapT.nil _ _) la lc L rfl HN.out HL.out (by simp; omega) (Nat.le_refl _) L.length L (by simp) rfl ?_; intro d3 c3 W3 hd3 b3; have C3 := hiddenN hd3; have B3 := hiddenN b3; clear hd3 b3)
  rw [← HRE.out]
  exact ⟨d3, c3, rfl, C3.out, B3.out⟩
end Go.Proofs.Ytdifaobfomfieaa
