/- Texts of one chain, laid one behind the other. -/
import Derived.Test.YtafkmpfoojofhaaPartStuckMore15
import Derived.Test.YtafkmpfoojofhaaPartStuckMore16
namespace Go.Proofs.Ytafkmpfoojofhaa
open Go.ChangeShapes Go.WideShapes Go.ChangeAt Go.RowKit
theorem more_step {U : World} {g : Nat} {A : List NA} {i : Nat} (h : AtN U (some ⟨g, 0, none⟩) A) (hi : i < A.length) : AtN (U.setCell ⟨g, i * 5 + 4, none⟩ (.int .i64 ((nthNa A i).s + 1))) (some ⟨g, 0, none⟩) (A.set i (moreA (nthNa A i))) := by
  rcases h with e | ⟨b, off, e, hc⟩
  · rw [e] at hi; exact absurd hi (Nat.not_lt_zero _)
  · cases e
    refine .inr ⟨g, 0, rfl, fun k hk => ?_⟩
    rw [List.length_set] at hk
    obtain ⟨q0, q1, q2, q3, q4⟩ := hc k hk
    have ne : ∀ o, o ≠ i * 5 + 4 → (U.setCell ⟨g, i * 5 + 4, none⟩ (.int .i64 ((nthNa A i).s + 1))).cell? ⟨g, o, none⟩ = U.cell? ⟨g, o, none⟩ := fun o ho => World.cell?_setCell_other _ _ _ _ (fun e => ho (by cases e; rfl))
    rw [nthNa_set hi]
    by_cases e : k = i
    · subst e
      rw [if_pos rfl]
      refine ⟨by rw [ne _ (by omega)]; exact q0, by rw [ne _ (by omega)]; exact q1, by rw [ne _ (by omega)]; exact q2, by rw [ne _ (by omega)]; exact q3, ?_⟩
      rw [Nat.zero_add] at q4 ⊢
      exact World.cell?_setCell_same' _ _ _ (by rw [q4]; rfl)
    · rw [if_neg e]
      exact ⟨by rw [ne _ (by omega)]; exact q0, by rw [ne _ (by omega)]; exact q1, by rw [ne _ (by omega)]; exact q2, by rw [ne _ (by omega)]; exact q3, by rw [ne _ (by omega)]; exact q4⟩
set_option maxRecDepth 100000 in
set_option maxHeartbeats 16000000 in
theorem stuckMore_walk (n : NN) (a : Option Addr) (c : Nat) (la : Option Addr) (N lc : Nat) (L : List BK) (k : Int) (w : World) (h : ArgN w a c n) (hk : ArgK w la N lc L) (hb : -9223372036854775808 ≤ k ∧ k ≤ 9223372036854775807) : Calls Try.prog 4 #[.agg #[.int .i64 n.nodes, .slice a n.arcs.length c], .slice la N lc, .int .i64 k] w fun e w' => e = .returned (.bool true) ∧ Below w.heap.size w w' := by
  have b0 := (Below.refl w.heap.size w).alloc (Nat.le_refl _) (.cells #[.int .i64 n.nodes, .slice a n.arcs.length c] 24)
  have G0 := hiddenN (blkA_new 24 w #[.int .i64 n.nodes, .slice a n.arcs.length c])
  have B0 := hiddenN b0
  have AW : Hid (∀ U, Calls Try.prog 6 #[] U fun e w' => e = .returned (.bool true) ∧ Below U.heap.size U w') := fun U => awake14 U
  have z0 := G0.out.cell (k := 0) rfl
  have z1 := G0.out.cell (k := 1) rfl
  simp only [List.getElem_toArray, List.getElem_cons_zero, List.getElem_cons_succ] at z0 z1
  clear b0
  have CO : Hid (∀ U, Below w.heap.size w U → Calls Try.prog 5 #[.agg #[.int .i64 n.nodes, .slice a n.arcs.length c], .slice la N lc] U (ConE U (conK n L))) := fun U hU => confirm_any n a c L la N lc U (h.lies.below hU) (by have := h.room; omega) hk.len (by have := hk.room; have := hk.len; omega) (hk.lies.below hU) hk.ins
  have hroom : n.arcs.length * 40 ≤ 140737488351232 := h.room
  have HA := hiddenN h
  have HK := hiddenN hk
  have NM := hiddenN (fun (U : World) (g : ArgN U a c n) => rnet_any n a c U g)
  unfold NetE at NM
  clear h hk
  obtain ⟨E, hE⟩ : ∃ E, conK n L = E := ⟨_, rfl⟩
  rw [hE] at CO
  have HE := hiddenN hE
  clear hE
  go_enter Try.func4, Try.ntmps4
  go_upto_region 1 with fail
  generalize w.alloc (.cells #[.int .i64 n.nodes, .slice a n.arcs.length c] 24) = W0 at *
  go_upto_region 2 with (go_at_call 5; (with_reducible refine (CO.out W0 B0.out).mono ?_); rintro e V1 ⟨rfl, b1⟩; have L1 := hiddenN (B0.out.trans (b1.mono B0.out.size)); have X1 := hiddenN (G0.out.below b1); clear b1)
  clear z0 z1 G0 B0 CO
  have y0 := X1.out.cell (k := 0) rfl
  have y1 := X1.out.cell (k := 1) rfl
  simp only [List.getElem_toArray, List.getElem_cons_zero, List.getElem_cons_succ] at y0 y1
  cases h1 : decide (k < 0) with
  | true =>
    have LZ := L1
    go_wp2_with (go_at_call 6; (with_reducible refine (AW.out _).mono ?_); rintro e w9 ⟨rfl, b9⟩; have L9 := hiddenN (LZ.out.trans (b9.mono LZ.out.size)); clear b9)
    go_ret
    exact ⟨by first | rfl | simp, L9.out⟩
  | false =>
    obtain ⟨ix, rfl⟩ : ∃ q : Nat, k = (q : Int) := ⟨k.toNat, by have := of_decide_eq_false h1; omega⟩
    by_cases hiL : ix < n.arcs.length
    · have hiI : (ix : Int) < (n.arcs.length : Int) := by omega
      rcases (HA.out.below L1.out).lies with e | ⟨ab, ao, ea, hcc⟩
      · rw [e] at hiL; exact absurd hiL (Nat.not_lt_zero _)
      obtain ⟨-, -, -, -, a4⟩ := hcc ix hiL
      subst ea
      clear hcc
      obtain ⟨s, hs⟩ : ∃ s, (nthNa n.arcs ix).s = s := ⟨_, rfl⟩
      rw [hs] at a4
      have HS := hiddenN hs
      clear hs
      cases h3 : decide (256 ≤ s) with
      | true =>
        have LZ := L1
        go_wp2_with (go_at_call 6; (with_reducible refine (AW.out _).mono ?_); rintro e w9 ⟨rfl, b9⟩; have L9 := hiddenN (LZ.out.trans (b9.mono LZ.out.size)); clear b9)
        go_ret
        exact ⟨by first | rfl | simp, L9.out⟩
      | false =>
        cases h4 : decide (s < 0) with
        | true =>
          have LZ := L1
          go_wp2_with (go_at_call 6; (with_reducible refine (AW.out _).mono ?_); rintro e w9 ⟨rfl, b9⟩; have L9 := hiddenN (LZ.out.trans (b9.mono LZ.out.size)); clear b9)
          go_ret
          exact ⟨by first | rfl | simp, L9.out⟩
        | false =>
          have A1 := hiddenN (HA.out.below L1.out)
          have MR := hiddenN (con_more (L := L) hiL (by rw [HS.out]; have := of_decide_eq_false h3; have := of_decide_eq_false h4; omega))
          rw [HE.out] at MR
          have hwr : IntKind.i64.wrap (s + 1) = s + 1 := by
            rw [wrapN]
            have := of_decide_eq_false h3; have := of_decide_eq_false h4
            exact wrap64_id (by omega)
          go_upto_region 4 with fail
          clear h1 h3 h4 a4
          go_upto_region 5 with (go_at_call 7; (with_reducible refine (NM.out _ A1.out).mono ?_); rintro e W5 ⟨d, cc, rfl, q1, -, q3, q4, b5⟩; have M5 := hiddenN q1; have O5 := hiddenN q4; have E5 := hiddenN q3; have B5 := hiddenN b5; clear q1 q3 q4 b5)
          clear NM y0 y1
          obtain ⟨g, hg⟩ : ∃ g, d = some ⟨g, 0, none⟩ := by
            rcases O5.out.2 with ⟨e2, -⟩ | ⟨g, cap, cur, e2, -, hh, -⟩
            · simp at e2
              rw [e2.2.1] at hiL
              exact absurd hiL (Nat.not_lt_zero _)
            · simp at e2
              exact ⟨g, e2.1⟩
          subst hg
          have hgV : V1.heap.size ≤ g := (E5.out _ rfl).1
          have hg5 : g < W5.heap.size := (E5.out _ rfl).2
          have b6 := (Below.refl W5.heap.size W5).alloc (Nat.le_refl _) (.cells #[.int .i64 n.nodes, .slice (some ⟨g, 0, none⟩) n.arcs.length cc] 24)
          have MB6 := hiddenN (blkA_new 24 W5 #[.int .i64 n.nodes, .slice (some ⟨g, 0, none⟩) n.arcs.length cc])
          have M6 := hiddenN (M5.out.below b6)
          have J6 := hiddenN (B5.out.trans (b6.mono B5.out.size))
          have F6 : Hid (∀ k, (W5.alloc (.cells #[.int .i64 n.nodes, .slice (some ⟨g, 0, none⟩) n.arcs.length cc] 24)).frozen? ⟨g, k, none⟩ = false) := fun k => by
            rcases O5.out.2 with ⟨e2, -⟩ | ⟨g', cap, cur, e2, -, hh, -⟩
            · simp at e2
            · simp at e2
              obtain ⟨rfl, -⟩ := e2
              have hb := b6.block g hg5
              unfold World.frozen?
              rw [hb, hh]
              simp
          obtain ⟨mb, hmb⟩ : ∃ q, W5.heap.size = q := ⟨_, rfl⟩
          rw [hmb] at MB6 hg5 ⊢
          clear b6 hmb M5 O5 E5 B5
          generalize W5.alloc (.cells #[.int .i64 n.nodes, .slice (some ⟨g, 0, none⟩) n.arcs.length cc] 24) = W6 at *
          have m1 := MB6.out.cell (k := 1) rfl
          simp only [List.getElem_toArray, List.getElem_cons_zero, List.getElem_cons_succ] at m1
          have s0 : W6.cell? ⟨g, ix * 5 + 4, none⟩ = some (.int .i64 s) := by
            rcases M6.out with e | ⟨b, off, e, hcc⟩
            · rw [e] at hiL; exact absurd hiL (Nat.not_lt_zero _)
            · cases e
              have := (hcc ix hiL).2.2.2.2
              rw [HS.out, Nat.zero_add] at this
              exact this
          refine wp_region_said 12 (fun i u v => match i with
              | 0 => v = .pointer (some ⟨mb, 1, none⟩)
              | 1 => v = .slice (some ⟨g, 0, none⟩) n.arcs.length cc
              | 2 => v = .int .i64 (ix : Int)
              | 3 => v = .pointer (some ⟨mb, 1, none⟩)
              | 4 => v = .slice (some ⟨g, 0, none⟩) n.arcs.length cc
              | 5 => v = .int .i64 (ix : Int)
              | 6 => v = .pointer (some ⟨g, ix * 5, none⟩)
              | 7 => v = .pointer (some ⟨g, ix * 5 + 4, none⟩)
              | 8 => v = .int .i64 s
              | 9 => v = .int .i64 (s + 1)
              | 10 => v = .pointer (some ⟨g, ix * 5, none⟩)
              | 11 => v = .pointer (some ⟨g, ix * 5 + 4, none⟩)
              | _ => True) (by kernel_rfl) (by kernel_rfl) (by kernel_rfl) (by kernel_rfl) ?_ ?_ ?_
          · intro i w v w' h hb
            match i, h with
            | 0, h => exact h
            | 1, h => exact h
            | 2, h => exact h
            | 3, h => exact h
            | 4, h => exact h
            | 5, h => exact h
            | 6, h => exact h
            | 7, h => exact h
            | 8, h => exact h
            | 9, h => exact h
            | 10, h => exact h
            | 11, h => exact h
            | _ + 12, _ => trivial
          · intro i o ρ w' hi ho hb hc hf hfr hdep
            match i, hi with
            | 0, _ =>
              simp only [List.getElem?_toArray, List.getElem?_cons_zero, Option.some.injEq] at ho
              subst ho
              have ts : ρ (.tmp 8) = .pointer (some ⟨mb, 0, none⟩) := hfr 8 (by kernel_rfl)
              simp [go_sem, ts]
              exact ⟨Below.refl _ _, rfl⟩
            | 1, _ =>
              simp only [List.getElem?_toArray, List.getElem?_cons_zero, List.getElem?_cons_succ, Option.some.injEq] at ho
              subst ho
              have ts : ρ (.tmp 43) = .pointer (some ⟨mb, 1, none⟩) := hdep 0 43 (by kernel_rfl) (by kernel_rfl)
              have kc := cellN_later hb m1
              simp [go_sem, ts, kc]
              exact ⟨Below.refl _ _, rfl⟩
            | 2, _ =>
              simp only [List.getElem?_toArray, List.getElem?_cons_zero, List.getElem?_cons_succ, Option.some.injEq] at ho
              subst ho
              have ts : ρ (.tmp 2) = .int .i64 (ix : Int) := hfr 2 (by kernel_rfl)
              simp [go_sem, ts]
              exact ⟨Below.refl _ _, rfl⟩
            | 3, _ =>
              simp only [List.getElem?_toArray, List.getElem?_cons_zero, List.getElem?_cons_succ, Option.some.injEq] at ho
              subst ho
              have ts : ρ (.tmp 8) = .pointer (some ⟨mb, 0, none⟩) := hfr 8 (by kernel_rfl)
              simp [go_sem, ts]
              exact ⟨Below.refl _ _, rfl⟩
            | 4, _ =>
              simp only [List.getElem?_toArray, List.getElem?_cons_zero, List.getElem?_cons_succ, Option.some.injEq] at ho
              subst ho
              have ts : ρ (.tmp 46) = .pointer (some ⟨mb, 1, none⟩) := hdep 3 46 (by kernel_rfl) (by kernel_rfl)
              have kc := cellN_later hb m1
              simp [go_sem, ts, kc]
              exact ⟨Below.refl _ _, rfl⟩
            | 5, _ =>
              simp only [List.getElem?_toArray, List.getElem?_cons_zero, List.getElem?_cons_succ, Option.some.injEq] at ho
              subst ho
              have ts : ρ (.tmp 2) = .int .i64 (ix : Int) := hfr 2 (by kernel_rfl)
              simp [go_sem, ts]
              exact ⟨Below.refl _ _, rfl⟩
            | 6, _ =>
              simp only [List.getElem?_toArray, List.getElem?_cons_zero, List.getElem?_cons_succ, Option.some.injEq] at ho
              subst ho
              have t0 : ρ (.tmp 47) = .slice (some ⟨g, 0, none⟩) n.arcs.length cc := hdep 4 47 (by kernel_rfl) (by kernel_rfl)
              have t1 : ρ (.tmp 48) = .int .i64 (ix : Int) := hdep 5 48 (by kernel_rfl) (by kernel_rfl)
              simp [go_sem, t0, t1, hiL]
              exact ⟨Below.refl _ _, rfl⟩
            | 7, _ =>
              simp only [List.getElem?_toArray, List.getElem?_cons_zero, List.getElem?_cons_succ, Option.some.injEq] at ho
              subst ho
              have ts : ρ (.tmp 49) = .pointer (some ⟨g, ix * 5, none⟩) := hdep 6 49 (by kernel_rfl) (by kernel_rfl)
              simp [go_sem, ts]
              exact ⟨Below.refl _ _, rfl⟩
            | 8, _ =>
              simp only [List.getElem?_toArray, List.getElem?_cons_zero, List.getElem?_cons_succ, Option.some.injEq] at ho
              subst ho
              have ts : ρ (.tmp 50) = .pointer (some ⟨g, ix * 5 + 4, none⟩) := hdep 7 50 (by kernel_rfl) (by kernel_rfl)
              have kc := cellN_later hb s0
              simp [go_sem, ts, kc]
              exact ⟨Below.refl _ _, rfl⟩
            | 9, _ =>
              simp only [List.getElem?_toArray, List.getElem?_cons_zero, List.getElem?_cons_succ, Option.some.injEq] at ho
              subst ho
              have ts : ρ (.tmp 51) = .int .i64 s := hdep 8 51 (by kernel_rfl) (by kernel_rfl)
              simp [go_sem, ts, hc, hwr]
              exact ⟨Below.refl _ _, rfl⟩
            | 10, _ =>
              simp only [List.getElem?_toArray, List.getElem?_cons_zero, List.getElem?_cons_succ, Option.some.injEq] at ho
              subst ho
              have t0 : ρ (.tmp 44) = .slice (some ⟨g, 0, none⟩) n.arcs.length cc := hdep 1 44 (by kernel_rfl) (by kernel_rfl)
              have t1 : ρ (.tmp 45) = .int .i64 (ix : Int) := hdep 2 45 (by kernel_rfl) (by kernel_rfl)
              simp [go_sem, t0, t1, hiL]
              exact ⟨Below.refl _ _, rfl⟩
            | 11, _ =>
              simp only [List.getElem?_toArray, List.getElem?_cons_zero, List.getElem?_cons_succ, Option.some.injEq] at ho
              subst ho
              have ts : ρ (.tmp 53) = .pointer (some ⟨g, ix * 5, none⟩) := hdep 10 53 (by kernel_rfl) (by kernel_rfl)
              simp [go_sem, ts]
              exact ⟨Below.refl _ _, rfl⟩
          · intro V w9 q9 hS
            have e0 : V 0 = .pointer (some ⟨mb, 1, none⟩) := hS 0 (by decide)
            have e1 : V 1 = .slice (some ⟨g, 0, none⟩) n.arcs.length cc := hS 1 (by decide)
            have e2 : V 2 = .int .i64 (ix : Int) := hS 2 (by decide)
            have e3 : V 3 = .pointer (some ⟨mb, 1, none⟩) := hS 3 (by decide)
            have e4 : V 4 = .slice (some ⟨g, 0, none⟩) n.arcs.length cc := hS 4 (by decide)
            have e5 : V 5 = .int .i64 (ix : Int) := hS 5 (by decide)
            have e6 : V 6 = .pointer (some ⟨g, ix * 5, none⟩) := hS 6 (by decide)
            have e7 : V 7 = .pointer (some ⟨g, ix * 5 + 4, none⟩) := hS 7 (by decide)
            have e8 : V 8 = .int .i64 s := hS 8 (by decide)
            have e9 : V 9 = .int .i64 (s + 1) := hS 9 (by decide)
            have e10 : V 10 = .pointer (some ⟨g, ix * 5, none⟩) := hS 10 (by decide)
            have e11 : V 11 = .pointer (some ⟨g, ix * 5 + 4, none⟩) := hS 11 (by decide)
            simp only [List.drop_succ_cons, List.drop_zero, List.take_succ_cons, List.take_zero, puts, e0, e1, e2, e3, e4, e5, e6, e7, e8, e9, e10, e11]
            simp only [Act.put, List.setIfInBounds_toArray, List.set_cons_zero, List.set_cons_succ]
            clear hS e0 e1 e2 e3 e4 e5 e6 e7 e8 e9 e10 e11 V
            have hgl : g < W6.heap.size := block_lt_of_cell s0
            have s9 := cellN_later q9 s0
            have f9 : w9.frozen? ⟨g, ix * 5 + 4, none⟩ = false := by
              have := F6.out (ix * 5 + 4)
              unfold World.frozen? at this ⊢
              rw [q9.block g hgl]
              exact this
            have Q9 := hiddenN (more_step (M6.out.below q9) hiL)
            rw [HS.out] at Q9
            have MB9 := hiddenN ((MB6.out.below q9).keep ((But.set w9 g (ix * 5 + 4) (.int .i64 (s + 1))).block mb (MB6.out.below q9).lt (by omega)))
            have LK9 := hiddenN (L1.out.trans (((J6.out.trans (q9.mono J6.out.size)).setCell (p := ⟨g, ix * 5 + 4, none⟩) hgV (.int .i64 (s + 1))).mono L1.out.size))
            have CM : Hid (∀ U, AtN U (some ⟨g, 0, none⟩) (n.arcs.set ix (moreA (nthNa n.arcs ix))) → Below w.heap.size w U → Calls Try.prog 5 #[.agg #[.int .i64 n.nodes, .slice (some ⟨g, 0, none⟩) n.arcs.length cc], .slice la N lc] U (ConE U (conK (moreN n ix) L))) := fun U hU hW => by
              have q := confirm_any (moreN n ix) (some ⟨g, 0, none⟩) cc L la N lc U hU (by show (n.arcs.set ix _).length ≤ _; rw [List.length_set]; omega) HK.out.len (by have := HK.out.room; have := HK.out.len; omega) (HK.out.lies.below hW) HK.out.ins
              have e : (moreN n ix).arcs.length = n.arcs.length := List.length_set
              rw [e] at q
              exact q
            clear F6 MB6 M6 J6 m1 s0 q9
            obtain ⟨E2, hE2⟩ : ∃ E2, conK (moreN n ix) L = E2 := ⟨_, rfl⟩
            rw [hE2] at CM MR
            clear hE2
            go_upto_region 6 with fail
            generalize w9.setCell ⟨g, ix * 5 + 4, none⟩ (.int .i64 (s + 1)) = W10 at *
            have m0 := MB9.out.cell (k := 0) rfl
            have m1 := MB9.out.cell (k := 1) rfl
            simp only [List.getElem_toArray, List.getElem_cons_zero, List.getElem_cons_succ] at m0 m1
            by_cases hE0 : E = 0
            · rcases MR.out.1 hE0 with e | e
              · subst e
                subst hE0
                go_wp2_with (first
                  | (go_at_call 5; (with_reducible refine (CM.out _ Q9.out LK9.out).mono ?_); rintro e V6 ⟨rfl, b6⟩; have LZ := hiddenN (LK9.out.trans (b6.mono LK9.out.size)); clear b6)
                  | (go_at_call 6; (with_reducible refine (AW.out _).mono ?_); rintro e w9 ⟨rfl, b9⟩; have L9 := hiddenN (LZ.out.trans (b9.mono LZ.out.size)); clear b9))
                go_ret
                exact ⟨by first | rfl | simp, L9.out⟩
              · subst e
                subst hE0
                go_wp2_with (first
                  | (go_at_call 5; (with_reducible refine (CM.out _ Q9.out LK9.out).mono ?_); rintro e V6 ⟨rfl, b6⟩; have LZ := hiddenN (LK9.out.trans (b6.mono LK9.out.size)); clear b6)
                  | (go_at_call 6; (with_reducible refine (AW.out _).mono ?_); rintro e w9 ⟨rfl, b9⟩; have L9 := hiddenN (LZ.out.trans (b9.mono LZ.out.size)); clear b9))
                go_ret
                exact ⟨by first | rfl | simp, L9.out⟩
            · have e := MR.out.2 hE0
              subst e
              have hE1 : (E2 == 0) = false := by simpa using hE0
              have hE3 : (E2 == E2) = true := by simp
              go_wp2_with (first
                | (go_at_call 5; (with_reducible refine (CM.out _ Q9.out LK9.out).mono ?_); rintro e V6 ⟨rfl, b6⟩; have LZ := hiddenN (LK9.out.trans (b6.mono LK9.out.size)); clear b6)
                | (go_at_call 6; (with_reducible refine (AW.out _).mono ?_); rintro e w9 ⟨rfl, b9⟩; have L9 := hiddenN (LZ.out.trans (b9.mono LZ.out.size)); clear b9))
              go_ret
              exact ⟨by first | rfl | simp, L9.out⟩
    · have hiI : decide ((n.arcs.length : Int) ≤ (ix : Int)) = true := decide_eq_true (by omega)
      have hiN : decide (n.arcs.length ≤ ix) = true := decide_eq_true (by omega)
      have LZ := L1
      go_wp2_with (go_at_call 6; (with_reducible refine (AW.out _).mono ?_); rintro e w9 ⟨rfl, b9⟩; have L9 := hiddenN (LZ.out.trans (b9.mono LZ.out.size)); clear b9)
      go_ret
      exact ⟨by first | rfl | simp, L9.out⟩
end Go.Proofs.Ytafkmpfoojofhaa
