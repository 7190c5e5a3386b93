/- Texts of one chain, laid one behind the other. -/
import Derived.Test.YtigaimkflngneaaPartNestFlats23
import Derived.BigQuiet
import Derived.Deep.QuietTactic
namespace Go.Proofs.Ytigaimkflngneaa
open Go.ChangeShapes Go.WideShapes Go.ChangeAt Go.RowKit
set_option maxRecDepth 100000 in
set_option maxHeartbeats 16000000 in
theorem rflatY_any (a : Option Addr) (R : List (Int × Int)) (cap : Nat) (w : World) (h : AtY w a R) (hm : R.length ≤ 4611686018427387904) :
    Calls Try.prog 14 #[.slice a R.length cap] w (FlaE R w) := by
  obtain ⟨RE, hRE⟩ : ∃ Q, FlaE R w = Q := ⟨_, rfl⟩
  rw [hRE]
  have HRE := hiddenN hRE
  obtain ⟨L, hL⟩ : ∃ L, R.length = L := ⟨_, rfl⟩
  have HL := hiddenN hL
  have A0 := hiddenN h
  rw [hL] at hm ⊢
  have hLI : (L : Int) ≤ 4611686018427387904 := by omega
  clear hRE hL h
  go_enter Try.func14, Try.ntmps14
  go_upto_region 2 with fail
  go_loopg [4] L (fun gk iv wr => ∃ (k : Nat), k ≤ L ∧ gk = L - k ∧ iv = .int .i64 (k : Int) ∧ flawY (R.take k) = 0 ∧ Below w.heap.size w wr)
  case atStart => exact ⟨0, Nat.zero_le _, rfl, rfl, rfl, Below.refl _ _⟩
  case round =>
    obtain ⟨k, hk, rfl, rfl, hf, hb⟩ := hrel
    have HF := hiddenN hf
    have HB := hiddenN hb
    clear hf hb
    by_cases hlt : k < L
    · have hkR : k < R.length := by rw [HL.out]; exact hlt
      have hki : (k : Int) < (L : Int) := by omega
      rcases (A0.out.below HB.out) with e | ⟨ab, ao, rfl, hcl⟩
      · rw [e] at hkR; exact absurd hkR (Nat.not_lt_zero _)
      obtain ⟨c0, c1⟩ := hcl k hkR
      have HFA := hiddenN (flaw_at hkR HF.out)
      have HTK := hiddenN (takeY hkR)
      clear hcl
      obtain ⟨nd, hnd⟩ : ∃ q, (nthY R k).1 = q := ⟨_, rfl⟩
      obtain ⟨ti, hti⟩ : ∃ q, (nthY R k).2 = q := ⟨_, rfl⟩
      have HP : Hid (nthY R k = (nd, ti)) := by show _ = _; rw [← hnd, ← hti]
      rw [hnd] at c0 HFA
      rw [hti] at c1 HFA
      clear hnd hti
      by_cases q1 : nd < 0
      · have HX : Hid (chkY R = 100) := by
          show _ = _
          have e1 : flawY R = 100 := by rw [HFA.out, if_pos (by omega)]
          unfold chkY
          rw [e1]
          rfl
        go_wp2
        rw [← HRE.out]
        exact fla_bad HX.out (by decide) HB.out
      · by_cases q2 : nd ≥ 32
        · have HX : Hid (chkY R = 100) := by
            show _ = _
            have e1 : flawY R = 100 := by rw [HFA.out, if_pos (by omega)]
            unfold chkY
            rw [e1]
            rfl
          go_wp2
          rw [← HRE.out]
          exact fla_bad HX.out (by decide) HB.out
        · rw [if_neg (by omega)] at HFA
          by_cases ht : ti < 1
          · have HX : Hid (chkY R = 160) := by
              show _ = _
              have e1 : flawY R = 160 := by rw [HFA.out, if_pos ht]
              unfold chkY
              rw [e1]
              rfl
            go_wp2
            rw [← HRE.out]
            exact fla_bad HX.out (by decide) HB.out
          · have HF2 : Hid (flawY (R.take (k + 1)) = 0) := by
              show _ = _
              rw [HTK.out, flaw_app, HF.out, HP.out]
              have h1 : 0 ≤ nd ∧ nd < 32 := by omega
              simp [flawY, h1]
              omega
            go_wp2
            go_roundg (L - (k + 1))
            case measure => omega
            case rel => exact ⟨k + 1, by omega, rfl, by go_num, HF2.out, HB.out⟩
    · have ek : L = k := by omega
      subst ek
      have hT : R.take L = R := List.take_of_length_le (by rw [HL.out]; exact Nat.le_refl _)
      rw [hT] at HF
      have hki : ¬ ((L : Int) < (L : Int)) := by omega
      go_upto_region 10 with fail
      obtain ⟨wA, hwA⟩ : ∃ q : World, q = wr := ⟨_, rfl⟩
      subst hwA
      go_loopg [5, 6] L (fun gk lv iv wr => ∃ (k : Nat) (d : Option Addr) (n c : Nat), k ≤ L ∧ gk = L - k ∧ iv = .int .i64 (k : Int) ∧ lv = .slice d n c ∧ (flatsY (R.take k)).length = n ∧ n ≤ 2048 ∧ CapR w.heap.size wr d c (flatsY (R.take k)) ∧ Below w.heap.size w wr)
      case atStart => exact ⟨0, none, 0, 0, Nat.zero_le _, rfl, rfl, rfl, rfl, by decide, CapR.nil _ _, HB.out⟩
      case round =>
        obtain ⟨k, d, n, c, hk, rfl, rfl, rfl, hn, hn8, hC, hb⟩ := hrel
        have HN := hiddenN hn
        have HC := hiddenN hC
        have HB := hiddenN hb
        have hnI : (n : Int) ≤ 2048 := by omega
        clear hn hC hb
        by_cases hlt : k < L
        · have hkR : k < R.length := by rw [HL.out]; exact hlt
          have hki2 : (k : Int) < (L : Int) := by omega
          have hab : R ≠ [] := fun e => by rw [e] at hkR; exact absurd hkR (Nat.not_lt_zero _)
          rcases A0.out with e | ⟨ab, ao, rfl, hcl⟩
          · exact absurd e hab
          have HCL := hiddenN (hcl k hkR)
          have HTK := hiddenN (takeY hkR)
          clear hcl hab
          obtain ⟨nd, hnd⟩ : ∃ q, (nthY R k).1 = q := ⟨_, rfl⟩
          obtain ⟨ti, hti⟩ : ∃ q, (nthY R k).2 = q := ⟨_, rfl⟩
          have HP : Hid (nthY R k = (nd, ti)) := by show _ = _; rw [← hnd, ← hti]
          rw [hnd, hti] at HCL
          clear hnd hti
          have hti1 : 1 ≤ ti := by
            have h1 := flaw_pos HF.out (nthY R k) (nthY_mem hkR)
            rw [HP.out] at h1
            exact h1
          obtain ⟨tn, rfl⟩ : ∃ tn : Nat, ti = (tn : Int) := ⟨ti.toNat, by omega⟩
          have HSM : Hid (sumY (R.take (k + 1)) = n + tn) := by
            show _ = _
            rw [HTK.out, sum_snocY, HP.out]
            unfold sumY
            rw [HN.out]
            simp
          have HSR : Hid (n + tn ≤ sumY R) := by
            show _ ≤ _
            have q := sum_appY (R.take (k + 1)) (R.drop (k + 1))
            rw [List.take_append_drop, HSM.out] at q
            omega
          have hb1 := HCL.out.1
          have hb2 := HCL.out.2
          have HC1 : Hid (∀ V, Below w.heap.size w V → V.cell? ⟨ab, ao + k * 2, none⟩ = some (.int .i64 nd) ∧ V.cell? ⟨ab, ao + k * 2 + 1, none⟩ = some (.int .i64 (tn : Int))) := fun V hv => ⟨(hv.cell (block_lt_of_cell hb1)).trans hb1, (hv.cell (block_lt_of_cell hb2)).trans hb2⟩
          clear hb1 hb2 HCL
          obtain ⟨c0, c1⟩ := HC1.out wr HB.out
          by_cases hbig : (tn : Int) > 2048 - (n : Int)
          · go_wp2
            rw [← HRE.out]
            have e1 : chkY R = 5 := by unfold chkY; rw [HF.out, if_neg (by decide), if_pos (by have := HSR.out; omega)]
            exact fla_bad e1 (by decide) HB.out
          · have htm : (tn : Int) ≤ 2048 := by omega
            have hnt : n + tn ≤ 2048 := by omega
            go_upto_region 15 with fail
            clear c0 c1
            obtain ⟨wB, hwB⟩ : ∃ q : World, q = wr := ⟨_, rfl⟩
            subst hwB
            go_loopg [5, 7] tn (fun gj lv jv wr => ∃ (j : Nat) (d : Option Addr) (n2 c : Nat), j ≤ tn ∧ gj = tn - j ∧ jv = .int .i64 (j : Int) ∧ lv = .slice d n2 c ∧ n + j = n2 ∧ CapR w.heap.size wr d c (flatsY (R.take k) ++ List.replicate j nd) ∧ Below w.heap.size w wr)
            case atStart => exact ⟨0, d, n, c, Nat.zero_le _, rfl, rfl, rfl, rfl, by rw [List.replicate_zero, List.append_nil]; exact HC.out, HB.out⟩
            case round =>
              clear HC HB
              obtain ⟨j, d, n2, c, hj, rfl, rfl, rfl, hn2, hC, hb⟩ := hrel
              have HN2 := hiddenN hn2
              have HC := hiddenN hC
              have HB := hiddenN hb
              have hn2m : n2 ≤ 4096 := by omega
              have hlen : (flatsY (R.take k) ++ List.replicate j nd).length = n2 := by rw [List.length_append, List.length_replicate, HN.out]; exact hn2
              have HLE := hiddenN hlen
              clear hn2 hC hb hlen
              obtain ⟨c0, c1⟩ := HC1.out wr HB.out
              by_cases hjt : j < tn
              · have hjI : (j : Int) < (tn : Int) := by omega
                have HC2 := hiddenN (HC.out.later ((Below.refl _ _).alloc (Nat.le_refl _) (.cells #[.int .i64 nd] 3)))
                have u0 := (blkA_new 3 wr #[.int .i64 nd]).cell (k := 0) rfl
                simp only [List.getElem_toArray, List.getElem_cons_zero] at u0
                have hB1 : w.heap.size ≤ (wr.alloc (.cells #[.int .i64 nd] 3)).heap.size := by rw [World.size_alloc]; have := HB.out.size; omega
                go_wp2_with (at_builtin; refine wpList_appQ rfl _ _ rfl w.heap.size d c (flatsY (R.take k) ++ List.replicate j nd) n2 HLE.out rfl HC2.out wr.heap.size nd rfl u0 (by omega) hB1 ?_; intro d3 c3 W3 hg3; have HG := hiddenN hg3; clear hg3)
                have B3 := hiddenN ((HB.out.alloc HB.out.size _).trans (grwN_below HG.out hB1 (fun y hy => (HC2.out.lt y hy).1)))
                go_roundg (tn - (j + 1))
                case measure => omega
                case rel => exact ⟨j + 1, d3, n2 + 1, c3, by omega, rfl, by go_num, rfl, by have := HN2.out; omega, by rw [List.replicate_succ', ← List.append_assoc]; exact HG.out.own, B3.out⟩
              · have ej : tn = j := by omega
                subst ej
                have hjI : ¬ ((tn : Int) < (tn : Int)) := by omega
                have hn9 : n2 ≤ 2048 := by have := HN2.out; omega
                go_wp2
                go_roundg (L - (k + 1))
                case measure => omega
                case rel => exact ⟨k + 1, d, n2, c, by omega, rfl, by go_num, rfl, by rw [HTK.out, flats_snoc, HP.out]; exact HLE.out, hn9, by rw [HTK.out, flats_snoc, HP.out]; exact HC.out, HB.out⟩
        · have ek : L = k := by omega
          subst ek
          have hki2 : ¬ ((L : Int) < (L : Int)) := by omega
          rw [hT] at HC HN
          have e1 : chkY R = 0 := by unfold chkY; rw [HF.out, if_neg (by decide), if_neg (by unfold sumY; rw [HN.out]; omega)]
          have HE1 := hiddenN e1
          clear e1
          go_wp2
          rw [← HRE.out]
          exact ⟨d, c, by rw [HE1.out, if_pos rfl, HN.out]; rfl, by rw [HE1.out, if_pos rfl]; exact HC.out, HB.out⟩
set_option maxRecDepth 100000 in
set_option maxHeartbeats 16000000 in
/-- Two rows that hold the same runs. -/
theorem sameY_any (a b : Option Addr) (R : List (Int × Int)) (ca cb : Nat) (w : World) (ha : AtY w a R) (hb : AtY w b R) (hm : R.length ≤ 4611686018427387904) :
    Calls Try.prog 10 #[.slice a R.length ca, .slice b R.length cb] w fun e w' => e = .returned (.bool true) ∧ Below w.heap.size w w' := by
  obtain ⟨RE, hRE⟩ : ∃ Q : Ending → World → Prop, (fun e w' => e = .returned (.bool true) ∧ Below w.heap.size w w') = Q := ⟨_, rfl⟩
  rw [hRE]
  have HRE := hiddenN hRE
  obtain ⟨L, hL⟩ : ∃ L, R.length = L := ⟨_, rfl⟩
  have HL := hiddenN hL
  have A0 := hiddenN ha
  have A1 := hiddenN hb
  rw [hL] at hm ⊢
  have hLI : (L : Int) ≤ 4611686018427387904 := by omega
  have e0 : ((L : Int) != (L : Int)) = false := by simp
  clear hRE hL ha hb
  go_enter Try.func10, Try.ntmps10
  go_upto_region 4 with fail
  go_loopg [5] L (fun gk iv wr => ∃ (k : Nat), k ≤ L ∧ gk = L - k ∧ iv = .int .i64 (k : Int) ∧ Below w.heap.size w wr)
  case atStart => exact ⟨0, Nat.zero_le _, rfl, rfl, Below.refl _ _⟩
  case round =>
    obtain ⟨k, hk, rfl, rfl, hb⟩ := hrel
    have HB := hiddenN hb
    clear hb
    by_cases hlt : k < L
    · have hkR : k < R.length := by rw [HL.out]; exact hlt
      have hki : (k : Int) < (L : Int) := by omega
      rcases (A0.out.below HB.out) with e | ⟨ab, ao, rfl, hcl⟩
      · rw [e] at hkR; exact absurd hkR (Nat.not_lt_zero _)
      rcases (A1.out.below HB.out) with e | ⟨bb, bo, rfl, hcm⟩
      · rw [e] at hkR; exact absurd hkR (Nat.not_lt_zero _)
      obtain ⟨c0, c1⟩ := hcl k hkR
      obtain ⟨d0, d1⟩ := hcm k hkR
      clear hcl hcm
      generalize (nthY R k).1 = nd at *
      generalize (nthY R k).2 = ti at *
      go_upto_region 6 with fail
      go_quiet (fail)
      have HB2 := hiddenN (drewB HB.out nq)
      generalize wr.drewN nq = W2 at *
      go_wp2
      go_roundg (L - (k + 1))
      case measure => omega
      case rel => exact ⟨k + 1, by omega, rfl, by go_num, HB2.out⟩
    · have ek : L = k := by omega
      subst ek
      have hki : ¬ ((L : Int) < (L : Int)) := by omega
      go_wp2
      rw [← HRE.out]
      exact ⟨rfl, HB.out⟩
end Go.Proofs.Ytigaimkflngneaa
