/- The document's Mul (pianolaref02). -/
import Derived.Test.YtcklodmhlhjipaaFRefMul
import Derived.Test.YtcklodmhlhjipaaRegAll
import Derived.Test.YtcklodmhlhjipaaFrMul
import Derived.Test.YtcklodmhlhjipaaFrBig
namespace Go.Proofs.Ytcklodmhlhjipaa
open Go.ChangeShapes Go.WideShapes Go.ChangeAt Go.RowKit

set_option maxRecDepth 100000 in
set_option maxHeartbeats 2000000 in
theorem rmulF_yes (a : Option Addr) (fs : List (Int × Int)) (len cap : Nat) (w : World) (hl : fs.length = len) (hm : len ≤ 4611686018427387904) (hz : InRP fs) (h : AtP w a fs) (hall : allB fs = true) (h0 : fs ≠ []) :
    Calls Try.prog 16 #[.slice a len cap] w fun e w' => e = .returned (.tuple #[.agg #[.int .i64 (prN fs), .int .i64 (prD fs)], .int .i64 (prE fs)]) ∧ Below w.heap.size w w' := by
  have HA : Hid (allB fs = true) := hall
  have hv := rall_any a fs len cap (w.alloc (.cells #[.int .i64 0, .int .i64 0] 23)) hl hm hz (h.below ((Below.refl _ _).alloc (Nat.le_refl _) _))
  rw [hall] at hv
  have K0 := var2_new w (.int .i64 0) (.int .i64 0) 23
  have B0 : Below w.heap.size w (w.alloc (.cells #[.int .i64 0, .int .i64 0] 23)) := (Below.refl _ _).alloc (Nat.le_refl _) _
  obtain ⟨b, off, rfl, hc⟩ := h.resolve_left h0
  have HC : Hid (∀ k, k < fs.length → w.cell? ⟨b, off + k * 2, none⟩ = some (.int .i64 (nthN fs k)) ∧ w.cell? ⟨b, off + k * 2 + 1, none⟩ = some (.int .i64 (nthD fs k))) := hc
  clear hc h h0 hall
  go_enter Try.func16, Try.ntmps16
  go_wp2_with (go_at_call 38; refine hv.mono ?_; rintro e w1 ⟨rfl, hb1⟩)
  have K1 := (K0.later hb1 K0.lt).alloc (.cells #[.int .i64 1, .int .i64 1] 23)
  have K2 := var2_new w1 (.int .i64 1) (.int .i64 1) 23
  have B1 := B0.trans (hb1.mono B0.size)
  have B2 : Below w.heap.size w (w1.alloc (.cells #[.int .i64 1, .int .i64 1] 23)) := B1.alloc B1.size _
  have hsz : w.heap.size < w1.heap.size := Nat.lt_of_lt_of_le K0.lt hb1.size
  clear hv K0 B0 hb1 B1
  go_loopg [5] len (fun gk i wr => ∃ (k : Nat) (x y : Int), k ≤ len ∧ gk = len - k ∧ i = .int .i64 k ∧ (-9223372036854775808 ≤ x ∧ x ≤ 9223372036854775807) ∧ y ≤ 9223372036854775807 ∧ validB x y = true ∧ mulO x y (fs.drop k) = mulO 1 1 fs ∧ Below w.heap.size w wr ∧ Var2 wr w.heap.size (.int .i64 0) (.int .i64 0) ∧ Var2 wr w1.heap.size (.int .i64 x) (.int .i64 y))
  case atStart => exact ⟨0, 1, 1, Nat.zero_le _, rfl, rfl, by decide, by decide, by decide, rfl, B2, K1, K2⟩
  case round =>
    clear K1 K2 B2
    obtain ⟨k, x, y, hk, rfl, rfl, hx, hy, hvd, hs, hbel, v0, v1⟩ := hrel
    have HS : Hid (mulO x y (fs.drop k) = mulO 1 1 fs) := hs
    have HVd : Hid (validB x y = true) := hvd
    clear hs hvd
    by_cases hlt : k < len
    · obtain ⟨q1, q2⟩ := HC.out k (by omega)
      have H1 : Hid (∀ W', Below wr.heap.size wr W' → W'.cell? ⟨b, off + k * 2, none⟩ = some (.int .i64 (nthN fs k))) := fun W' h => by rw [(hbel.trans (h.mono hbel.size)).cell (p := ⟨b, off + k * 2, none⟩) (block_lt_of_cell q1)]; exact q1
      have H2 : Hid (∀ W', Below wr.heap.size wr W' → W'.cell? ⟨b, off + k * 2 + 1, none⟩ = some (.int .i64 (nthD fs k))) := fun W' h => by rw [(hbel.trans (h.mono hbel.size)).cell (p := ⟨b, off + k * 2 + 1, none⟩) (block_lt_of_cell q2)]; exact q2
      obtain ⟨z1, z2⟩ := hz k
      have HD : Hid (fs.drop k = (nthN fs k, nthD fs k) :: fs.drop (k + 1)) := dropP (by omega)
      have HV2 : Hid (validB (nthN fs k) (nthD fs k) = true) := allB_nth HA.out (by omega)
      have hki : (k : Int) < (len : Int) := by omega
      clear q1 q2
      generalize nthN fs k = u at *
      generalize nthD fs k = v at *
      have ht0 := fun W => rtwo_any x y u v W hx ⟨valid_pos HVd.out, hy⟩ z1 ⟨valid_pos HV2.out, z2.2⟩
      cases hB : twoB x y u v
      · have HB : Hid (twoB x y u v = false) := hB
        rw [hB] at ht0
        generalize fitV (twoN x y u v) = X at ht0
        generalize fitV (twoD x y u v) = Y at ht0
        have ht : Hid (∀ W, Calls Try.prog 39 #[.agg #[.int .i64 x, .int .i64 y], .agg #[.int .i64 u, .int .i64 v]] W fun e w' => e = .returned (.tuple #[.agg #[.int .i64 X, .int .i64 Y], .bool false]) ∧ Below W.heap.size W w') := ht0
        clear hB ht0 hx hy z1 z2
        go_wp2
        refine wp_region_all 10 (fun st i wz z => match i with
            | 0 => z = .agg #[.int .i64 x, .int .i64 y]
            | 1 => z = .slice (some ⟨b, off, none⟩) len cap
            | 2 => z = .int .i64 (k : Int)
            | 3 => z = .pointer (some ⟨b, off + k * 2, none⟩)
            | 4 => z = .agg #[.int .i64 u, .int .i64 v]
            | 5 => z = .tuple #[.agg #[.int .i64 X, .int .i64 Y], .bool false]
            | 6 => z = .tuple #[.agg #[.int .i64 X, .int .i64 Y], .bool false]
            | 7 => z = .agg #[.int .i64 X, .int .i64 Y]
            | 8 => z = .bool false
            | 9 => IsNew wr.heap.size wz (.int .i64 (if st = true then X else 0)) (.int .i64 (if st = true then Y else 0)) z
            | 11 => z = .bool false
            | _ => True) (by kernel_rfl) (by kernel_rfl) (by kernel_rfl) (by kernel_rfl) (by decide) ?_ ?_ ?_ ?_
        · intro st i w v w' h hb
          match i, h with
          | 0, h => exact h
          | 1, h => exact h
          | 2, h => exact h
          | 3, h => exact h
          | 4, h => exact h
          | 5, h => exact h
          | 6, h => exact h
          | 7, h => exact h
          | 8, h => exact h
          | 9, h => exact IsNew.later h hb
          | 10, _ => trivial
          | 11, h => exact h
          | _ + 12, _ => trivial
        · intro st i o ρ w' hne ho hfree hb hc hf hfr hdep
          have G := v1.later hb v1.lt
          have c0 := G.c0
          have c1 := G.c1
          have k1 := H1.out _ hb
          have k2 := H2.out _ hb
          match i, hne, ho, hfree, hdep with
          | 0, _, ho, hfree, hdep =>
            simp only [List.getElem?_toArray, List.getElem?_cons_zero, Option.some.injEq] at ho
            subst ho
            have ts : ρ (.tmp 4) = .pointer (some ⟨w1.heap.size, 0, none⟩) := hfr 4 (by kernel_rfl)
            simp [go_sem, ts, c0, c1]
            exact ⟨Below.refl _ _, rfl⟩
          | 1, _, ho, hfree, hdep =>
            simp only [List.getElem?_toArray, List.getElem?_cons_zero, List.getElem?_cons_succ, Option.some.injEq] at ho
            subst ho
            have ts : ρ (.tmp 0) = .slice (some ⟨b, off, none⟩) len cap := hfr 0 (by kernel_rfl)
            simp [go_sem, ts]
            exact ⟨Below.refl _ _, rfl⟩
          | 2, _, ho, hfree, hdep =>
            simp only [List.getElem?_toArray, List.getElem?_cons_zero, List.getElem?_cons_succ, Option.some.injEq] at ho
            subst ho
            have ts : ρ (.tmp 5) = .int .i64 (k : Int) := hfr 5 (by kernel_rfl)
            simp [go_sem, ts]
            exact ⟨Below.refl _ _, rfl⟩
          | 3, _, ho, hfree, hdep =>
            simp only [List.getElem?_toArray, List.getElem?_cons_zero, List.getElem?_cons_succ, Option.some.injEq] at ho
            subst ho
            have t1 : ρ (.tmp 21) = .slice (some ⟨b, off, none⟩) len cap := hdep 1 21 (by kernel_rfl) (by kernel_rfl)
            have t2 : ρ (.tmp 22) = .int .i64 (k : Int) := hdep 2 22 (by kernel_rfl) (by kernel_rfl)
            simp [go_sem, t1, t2, hki]
            exact ⟨Below.refl _ _, rfl⟩
          | 4, _, ho, hfree, hdep =>
            simp only [List.getElem?_toArray, List.getElem?_cons_zero, List.getElem?_cons_succ, Option.some.injEq] at ho
            subst ho
            have t1 : ρ (.tmp 23) = .pointer (some ⟨b, off + k * 2, none⟩) := hdep 3 23 (by kernel_rfl) (by kernel_rfl)
            simp [go_sem, t1, k1, k2]
            exact ⟨Below.refl _ _, rfl⟩
          | 5, _, ho, hfree, hdep =>
            simp only [List.getElem?_toArray, List.getElem?_cons_zero, List.getElem?_cons_succ, Option.some.injEq] at ho
            subst ho
            have t1 : ρ (.tmp 20) = .agg #[.int .i64 x, .int .i64 y] := hdep 0 20 (by kernel_rfl) (by kernel_rfl)
            have t2 : ρ (.tmp 24) = .agg #[.int .i64 u, .int .i64 v] := hdep 4 24 (by kernel_rfl) (by kernel_rfl)
            simp [go_sem, t1, t2, hf]
            exact ⟨rfl, (ht.out _).mono (fun e w'' h => ⟨_, h.1, h.2, rfl⟩)⟩
          | 6, _, ho, hfree, hdep =>
            simp only [List.getElem?_toArray, List.getElem?_cons_zero, List.getElem?_cons_succ, Option.some.injEq] at ho
            subst ho
            have t1 : ρ (.tmp 25) = .tuple #[.agg #[.int .i64 X, .int .i64 Y], .bool false] := hdep 5 25 (by kernel_rfl) (by kernel_rfl)
            simp [go_sem, t1]
            exact ⟨Below.refl _ _, rfl⟩
          | 7, _, ho, hfree, hdep =>
            simp only [List.getElem?_toArray, List.getElem?_cons_zero, List.getElem?_cons_succ, Option.some.injEq] at ho
            subst ho
            have t1 : ρ (.tmp 19) = .tuple #[.agg #[.int .i64 X, .int .i64 Y], .bool false] := hdep 6 19 (by kernel_rfl) (by kernel_rfl)
            simp [go_sem, t1]
            exact ⟨Below.refl _ _, rfl⟩
          | 8, _, ho, hfree, hdep =>
            simp only [List.getElem?_toArray, List.getElem?_cons_zero, List.getElem?_cons_succ, Option.some.injEq] at ho
            subst ho
            have t1 : ρ (.tmp 19) = .tuple #[.agg #[.int .i64 X, .int .i64 Y], .bool false] := hdep 6 19 (by kernel_rfl) (by kernel_rfl)
            simp [go_sem, t1]
            exact ⟨Below.refl _ _, rfl⟩
          | 9, _, ho, hfree, hdep =>
            simp only [List.getElem?_toArray, List.getElem?_cons_zero, List.getElem?_cons_succ, Option.some.injEq] at ho
            subst ho
            have es : st = false := hfree (by kernel_rfl)
            subst es
            simp [go_sem]
            exact ⟨(Below.refl _ _).alloc (Nat.le_refl _) _, _, rfl, var2_new _ _ _ _, hb.size⟩
          | 10, hne, _, _, _ => exact absurd rfl hne
          | 11, _, ho, hfree, hdep =>
            simp only [List.getElem?_toArray, List.getElem?_cons_zero, List.getElem?_cons_succ, Option.some.injEq] at ho
            subst ho
            have t1 : ρ (.tmp 27) = .bool false := hdep 8 27 (by kernel_rfl) (by kernel_rfl)
            simp [go_sem, t1]
            exact ⟨Below.refl _ _, rfl⟩
          | n + 12, _, ho, _, _ => simp at ho
        · intro o ρ w' ho hb hdep
          simp only [List.getElem?_toArray, List.getElem?_cons_zero, List.getElem?_cons_succ, Option.some.injEq] at ho
          subst ho
          obtain ⟨bb, e9, Z, B⟩ : IsNew wr.heap.size w' (.int .i64 0) (.int .i64 0) (ρ (.tmp 6)) := hdep 9 6 (by kernel_rfl) (by kernel_rfl)
          have t7 : ρ (.tmp 26) = .agg #[.int .i64 X, .int .i64 Y] := hdep 7 26 (by kernel_rfl) (by kernel_rfl)
          refine ⟨(w'.setCell ⟨bb, 0, none⟩ (.int .i64 X)).setCell ⟨bb, 1, none⟩ (.int .i64 Y), by simp [go_sem, e9, t7, Z.c0, Z.c1, Z.f0, Z.f1], (hb.setCell (p := ⟨bb, 0, none⟩) B _).setCell (p := ⟨bb, 1, none⟩) B _, ?_⟩
          intro j t hj hs
          match j, hj, hs with
          | 0, _, hs => exact hs
          | 1, _, hs => exact hs
          | 2, _, hs => exact hs
          | 3, _, hs => exact hs
          | 4, _, hs => exact hs
          | 5, _, hs => exact hs
          | 6, _, hs => exact hs
          | 7, _, hs => exact hs
          | 8, _, hs => exact hs
          | 9, hj, _ =>
            have et : t = 6 := by simpa using hj.symm
            subst et
            rw [e9]
            exact ⟨bb, rfl, Z.put _ _, B⟩
          | 10, _, _ => trivial
          | 11, _, hs => exact hs
          | _ + 12, _, _ => trivial
        · intro V w9 q9 hS
          have e0 : V 0 = .agg #[.int .i64 x, .int .i64 y] := hS 0 (by decide) (by decide)
          have e1 : V 1 = .slice (some ⟨b, off, none⟩) len cap := hS 1 (by decide) (by decide)
          have e2 : V 2 = .int .i64 (k : Int) := hS 2 (by decide) (by decide)
          have e3 : V 3 = .pointer (some ⟨b, off + k * 2, none⟩) := hS 3 (by decide) (by decide)
          have e4 : V 4 = .agg #[.int .i64 u, .int .i64 v] := hS 4 (by decide) (by decide)
          have e5 : V 5 = .tuple #[.agg #[.int .i64 X, .int .i64 Y], .bool false] := hS 5 (by decide) (by decide)
          have e6 : V 6 = .tuple #[.agg #[.int .i64 X, .int .i64 Y], .bool false] := hS 6 (by decide) (by decide)
          have e7 : V 7 = .agg #[.int .i64 X, .int .i64 Y] := hS 7 (by decide) (by decide)
          have e8 : V 8 = .bool false := hS 8 (by decide) (by decide)
          have e11 : V 11 = .bool false := hS 11 (by decide) (by decide)
          obtain ⟨bb, e9, Z, B⟩ : IsNew wr.heap.size w9 (.int .i64 X) (.int .i64 Y) (V 9) := hS 9 (by decide) (by decide)
          simp only [puts, put_none, e0, e1, e2, e3, e4, e5, e6, e7, e8, e9, e11]
          clear hS e0 e1 e2 e3 e4 e5 e6 e7 e8 e9 e11 V
          have R := v0.later q9 v0.lt
          have r0 := R.c0
          have r1 := R.c1
          have f0 := R.f0
          have f1 := R.f1
          have LW := hbel.trans (q9.mono hbel.size)
          have KE : Hid (prN fs = 0 ∧ prD fs = 0 ∧ prE fs = 4) := by
            have := prod_stop HS.out HD.out HB.out
            exact ⟨by unfold prN; rw [this]; rfl, by unfold prD; rw [this]; rfl, by unfold prE; rw [this]; rfl⟩
          clear R
          go_wp2
          refine bodyPost_ret (v := .tuple #[.agg #[.int .i64 0, .int .i64 0], .int .i64 4]) (by simp [results, Try.results16, go_sem, r0, r1]) rfl ⟨by rw [KE.out.1, KE.out.2.1, KE.out.2.2], ?_⟩
          exact (LW.setCell (by simp) _).setCell (by simp) _
      · have HB : Hid (twoB x y u v = true) := hB
        rw [hB] at ht0
        have hf0 := two_fits HB.out
        rw [fitV_yes hf0.1, fitV_yes hf0.2] at ht0
        have HNX : Hid (mulO (twoN x y u v) (twoD x y u v) (fs.drop (k + 1)) = mulO 1 1 fs) := prod_step HS.out HD.out HB.out
        have HVX : Hid (validB (twoN x y u v) (twoD x y u v) = true) := (two_valid HVd.out HV2.out).1
        have HX : Hid ((-9223372036854775808 ≤ twoN x y u v ∧ twoN x y u v ≤ 9223372036854775807) ∧ (-9223372036854775808 ≤ twoD x y u v ∧ twoD x y u v ≤ 9223372036854775807)) := hf0
        generalize twoN x y u v = X at *
        generalize twoD x y u v = Y at *
        have ht : Hid (∀ W, Calls Try.prog 39 #[.agg #[.int .i64 x, .int .i64 y], .agg #[.int .i64 u, .int .i64 v]] W fun e w' => e = .returned (.tuple #[.agg #[.int .i64 X, .int .i64 Y], .bool true]) ∧ Below W.heap.size W w') := ht0
        clear hB ht0 hx hy z1 z2 hf0
        go_wp2
        refine wp_region_all 10 (fun st i wz z => match i with
            | 0 => z = .agg #[.int .i64 x, .int .i64 y]
            | 1 => z = .slice (some ⟨b, off, none⟩) len cap
            | 2 => z = .int .i64 (k : Int)
            | 3 => z = .pointer (some ⟨b, off + k * 2, none⟩)
            | 4 => z = .agg #[.int .i64 u, .int .i64 v]
            | 5 => z = .tuple #[.agg #[.int .i64 X, .int .i64 Y], .bool true]
            | 6 => z = .tuple #[.agg #[.int .i64 X, .int .i64 Y], .bool true]
            | 7 => z = .agg #[.int .i64 X, .int .i64 Y]
            | 8 => z = .bool true
            | 9 => IsNew wr.heap.size wz (.int .i64 (if st = true then X else 0)) (.int .i64 (if st = true then Y else 0)) z
            | 11 => z = .bool true
            | _ => True) (by kernel_rfl) (by kernel_rfl) (by kernel_rfl) (by kernel_rfl) (by decide) ?_ ?_ ?_ ?_
        · intro st i w v w' h hb
          match i, h with
          | 0, h => exact h
          | 1, h => exact h
          | 2, h => exact h
          | 3, h => exact h
          | 4, h => exact h
          | 5, h => exact h
          | 6, h => exact h
          | 7, h => exact h
          | 8, h => exact h
          | 9, h => exact IsNew.later h hb
          | 10, _ => trivial
          | 11, h => exact h
          | _ + 12, _ => trivial
        · intro st i o ρ w' hne ho hfree hb hc hf hfr hdep
          have G := v1.later hb v1.lt
          have c0 := G.c0
          have c1 := G.c1
          have k1 := H1.out _ hb
          have k2 := H2.out _ hb
          match i, hne, ho, hfree, hdep with
          | 0, _, ho, hfree, hdep =>
            simp only [List.getElem?_toArray, List.getElem?_cons_zero, Option.some.injEq] at ho
            subst ho
            have ts : ρ (.tmp 4) = .pointer (some ⟨w1.heap.size, 0, none⟩) := hfr 4 (by kernel_rfl)
            simp [go_sem, ts, c0, c1]
            exact ⟨Below.refl _ _, rfl⟩
          | 1, _, ho, hfree, hdep =>
            simp only [List.getElem?_toArray, List.getElem?_cons_zero, List.getElem?_cons_succ, Option.some.injEq] at ho
            subst ho
            have ts : ρ (.tmp 0) = .slice (some ⟨b, off, none⟩) len cap := hfr 0 (by kernel_rfl)
            simp [go_sem, ts]
            exact ⟨Below.refl _ _, rfl⟩
          | 2, _, ho, hfree, hdep =>
            simp only [List.getElem?_toArray, List.getElem?_cons_zero, List.getElem?_cons_succ, Option.some.injEq] at ho
            subst ho
            have ts : ρ (.tmp 5) = .int .i64 (k : Int) := hfr 5 (by kernel_rfl)
            simp [go_sem, ts]
            exact ⟨Below.refl _ _, rfl⟩
          | 3, _, ho, hfree, hdep =>
            simp only [List.getElem?_toArray, List.getElem?_cons_zero, List.getElem?_cons_succ, Option.some.injEq] at ho
            subst ho
            have t1 : ρ (.tmp 21) = .slice (some ⟨b, off, none⟩) len cap := hdep 1 21 (by kernel_rfl) (by kernel_rfl)
            have t2 : ρ (.tmp 22) = .int .i64 (k : Int) := hdep 2 22 (by kernel_rfl) (by kernel_rfl)
            simp [go_sem, t1, t2, hki]
            exact ⟨Below.refl _ _, rfl⟩
          | 4, _, ho, hfree, hdep =>
            simp only [List.getElem?_toArray, List.getElem?_cons_zero, List.getElem?_cons_succ, Option.some.injEq] at ho
            subst ho
            have t1 : ρ (.tmp 23) = .pointer (some ⟨b, off + k * 2, none⟩) := hdep 3 23 (by kernel_rfl) (by kernel_rfl)
            simp [go_sem, t1, k1, k2]
            exact ⟨Below.refl _ _, rfl⟩
          | 5, _, ho, hfree, hdep =>
            simp only [List.getElem?_toArray, List.getElem?_cons_zero, List.getElem?_cons_succ, Option.some.injEq] at ho
            subst ho
            have t1 : ρ (.tmp 20) = .agg #[.int .i64 x, .int .i64 y] := hdep 0 20 (by kernel_rfl) (by kernel_rfl)
            have t2 : ρ (.tmp 24) = .agg #[.int .i64 u, .int .i64 v] := hdep 4 24 (by kernel_rfl) (by kernel_rfl)
            simp [go_sem, t1, t2, hf]
            exact ⟨rfl, (ht.out _).mono (fun e w'' h => ⟨_, h.1, h.2, rfl⟩)⟩
          | 6, _, ho, hfree, hdep =>
            simp only [List.getElem?_toArray, List.getElem?_cons_zero, List.getElem?_cons_succ, Option.some.injEq] at ho
            subst ho
            have t1 : ρ (.tmp 25) = .tuple #[.agg #[.int .i64 X, .int .i64 Y], .bool true] := hdep 5 25 (by kernel_rfl) (by kernel_rfl)
            simp [go_sem, t1]
            exact ⟨Below.refl _ _, rfl⟩
          | 7, _, ho, hfree, hdep =>
            simp only [List.getElem?_toArray, List.getElem?_cons_zero, List.getElem?_cons_succ, Option.some.injEq] at ho
            subst ho
            have t1 : ρ (.tmp 19) = .tuple #[.agg #[.int .i64 X, .int .i64 Y], .bool true] := hdep 6 19 (by kernel_rfl) (by kernel_rfl)
            simp [go_sem, t1]
            exact ⟨Below.refl _ _, rfl⟩
          | 8, _, ho, hfree, hdep =>
            simp only [List.getElem?_toArray, List.getElem?_cons_zero, List.getElem?_cons_succ, Option.some.injEq] at ho
            subst ho
            have t1 : ρ (.tmp 19) = .tuple #[.agg #[.int .i64 X, .int .i64 Y], .bool true] := hdep 6 19 (by kernel_rfl) (by kernel_rfl)
            simp [go_sem, t1]
            exact ⟨Below.refl _ _, rfl⟩
          | 9, _, ho, hfree, hdep =>
            simp only [List.getElem?_toArray, List.getElem?_cons_zero, List.getElem?_cons_succ, Option.some.injEq] at ho
            subst ho
            have es : st = false := hfree (by kernel_rfl)
            subst es
            simp [go_sem]
            exact ⟨(Below.refl _ _).alloc (Nat.le_refl _) _, _, rfl, var2_new _ _ _ _, hb.size⟩
          | 10, hne, _, _, _ => exact absurd rfl hne
          | 11, _, ho, hfree, hdep =>
            simp only [List.getElem?_toArray, List.getElem?_cons_zero, List.getElem?_cons_succ, Option.some.injEq] at ho
            subst ho
            have t1 : ρ (.tmp 27) = .bool true := hdep 8 27 (by kernel_rfl) (by kernel_rfl)
            simp [go_sem, t1]
            exact ⟨Below.refl _ _, rfl⟩
          | n + 12, _, ho, _, _ => simp at ho
        · intro o ρ w' ho hb hdep
          simp only [List.getElem?_toArray, List.getElem?_cons_zero, List.getElem?_cons_succ, Option.some.injEq] at ho
          subst ho
          obtain ⟨bb, e9, Z, B⟩ : IsNew wr.heap.size w' (.int .i64 0) (.int .i64 0) (ρ (.tmp 6)) := hdep 9 6 (by kernel_rfl) (by kernel_rfl)
          have t7 : ρ (.tmp 26) = .agg #[.int .i64 X, .int .i64 Y] := hdep 7 26 (by kernel_rfl) (by kernel_rfl)
          refine ⟨(w'.setCell ⟨bb, 0, none⟩ (.int .i64 X)).setCell ⟨bb, 1, none⟩ (.int .i64 Y), by simp [go_sem, e9, t7, Z.c0, Z.c1, Z.f0, Z.f1], (hb.setCell (p := ⟨bb, 0, none⟩) B _).setCell (p := ⟨bb, 1, none⟩) B _, ?_⟩
          intro j t hj hs
          match j, hj, hs with
          | 0, _, hs => exact hs
          | 1, _, hs => exact hs
          | 2, _, hs => exact hs
          | 3, _, hs => exact hs
          | 4, _, hs => exact hs
          | 5, _, hs => exact hs
          | 6, _, hs => exact hs
          | 7, _, hs => exact hs
          | 8, _, hs => exact hs
          | 9, hj, _ =>
            have et : t = 6 := by simpa using hj.symm
            subst et
            rw [e9]
            exact ⟨bb, rfl, Z.put _ _, B⟩
          | 10, _, _ => trivial
          | 11, _, hs => exact hs
          | _ + 12, _, _ => trivial
        · intro V w9 q9 hS
          have e0 : V 0 = .agg #[.int .i64 x, .int .i64 y] := hS 0 (by decide) (by decide)
          have e1 : V 1 = .slice (some ⟨b, off, none⟩) len cap := hS 1 (by decide) (by decide)
          have e2 : V 2 = .int .i64 (k : Int) := hS 2 (by decide) (by decide)
          have e3 : V 3 = .pointer (some ⟨b, off + k * 2, none⟩) := hS 3 (by decide) (by decide)
          have e4 : V 4 = .agg #[.int .i64 u, .int .i64 v] := hS 4 (by decide) (by decide)
          have e5 : V 5 = .tuple #[.agg #[.int .i64 X, .int .i64 Y], .bool true] := hS 5 (by decide) (by decide)
          have e6 : V 6 = .tuple #[.agg #[.int .i64 X, .int .i64 Y], .bool true] := hS 6 (by decide) (by decide)
          have e7 : V 7 = .agg #[.int .i64 X, .int .i64 Y] := hS 7 (by decide) (by decide)
          have e8 : V 8 = .bool true := hS 8 (by decide) (by decide)
          have e11 : V 11 = .bool true := hS 11 (by decide) (by decide)
          obtain ⟨bb, e9, Z, B⟩ : IsNew wr.heap.size w9 (.int .i64 X) (.int .i64 Y) (V 9) := hS 9 (by decide) (by decide)
          simp only [puts, put_none, e0, e1, e2, e3, e4, e5, e6, e7, e8, e9, e11]
          clear hS e0 e1 e2 e3 e4 e5 e6 e7 e8 e9 e11 V
          have R := v0.later q9 v0.lt
          have A := v1.later q9 v1.lt
          have z0 := Z.c0
          have z1 := Z.c1
          have d0 := A.c0
          have d1 := A.c1
          have f0 := A.f0
          have f1 := A.f1
          have LW := hbel.trans (q9.mono hbel.size)
          go_wp2
          go_roundg (len - (k + 1))
          case measure => omega
          case rel => exact ⟨k + 1, X, Y, by omega, rfl, by go_num, HX.out.1, HX.out.2.2, HVX.out, HNX.out, (LW.setCell (by simp; omega) _).setCell (by simp; omega) _, (R.other (by simp; omega) _).other (by simp; omega) _, A.put _ _⟩
    · have HD : Hid (fs.drop k = []) := dropP_end (by omega)
      have r0 := v0.c0
      have r1 := v0.c1
      have f0 := v0.f0
      have f1 := v0.f1
      have d0 := v1.c0
      have d1 := v1.c1
      have KE : Hid (prN fs = x ∧ prD fs = y ∧ prE fs = 0) := by
        have : mulO 1 1 fs = some (x, y) := by rw [← HS.out, HD.out]; rfl
        exact ⟨by unfold prN; rw [this]; rfl, by unfold prD; rw [this]; rfl, by unfold prE; rw [this]; rfl⟩
      go_wp2
      refine bodyPost_ret (v := .tuple #[.agg #[.int .i64 x, .int .i64 y], .int .i64 0]) (by simp [results, Try.results16, go_sem, r0, r1]) rfl ⟨by rw [KE.out.1, KE.out.2.1, KE.out.2.2], ?_⟩
      exact (hbel.setCell (by simp) _).setCell (by simp) _
end Go.Proofs.Ytcklodmhlhjipaa
