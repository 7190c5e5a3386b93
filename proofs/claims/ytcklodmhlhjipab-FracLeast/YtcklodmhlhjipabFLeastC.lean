/- The statement FracLeast: the way that tells the scale. -/
import Derived.Test.YtcklodmhlhjipabFLeastB
namespace Go.Proofs.Ytcklodmhlhjipab
open Go.ChangeShapes Go.WideShapes Go.ChangeAt Go.RowKit

set_option maxRecDepth 100000 in
set_option maxHeartbeats 2000000 in
/-- The scale and its numbers. -/
theorem least_ok (a : Option Addr) (len cap : Nat) (fs : List (Int × Int)) (m : Int) (K : Nat) (w : World) (hA : ArgP w a len cap fs) (hm : -9223372036854775808 ≤ m ∧ m ≤ 9223372036854775807) (hall : allB fs = true) (hno : lcOK fs = some K) (h0 : fs ≠ []) :
    Calls Try.prog 7 #[.slice a len cap, .int .i64 m] w fun e w' => e = .returned (.bool true) ∧ Below w.heap.size w w' := by
  have hlent := lentP_any a fs len cap w hA
  have hr := hA.reach
  have hsc : ∀ g capg w', AtP w' (some ⟨g, 0, none⟩) fs → Calls Try.prog 19 #[.slice (some ⟨g, 0, none⟩) len capg] w' fun e w'' => Below w'.heap.size w' w'' ∧ ∃ g2, e = .returned (.tuple #[.int .i64 (K : Nat), .slice (some ⟨g2, 0, none⟩) len len, .int .i64 0]) ∧ w''.rowIs g2 3 len (fun i => .int .i64 (nth (scL K fs) i)) := fun g capg w' h => by
    refine (scale_frac _ fs len capg w' hA.size hA.reach hA.fits h).mono ?_
    rintro e w'' ⟨hb, x, n, c, rfl, hn, how⟩
    obtain ⟨k1, k2, k3⟩ := scE_ok hall hno
    rw [k3] at hn how
    rw [scL_len, hA.size] at hn
    subst hn
    rw [k1, k2]
    rcases how with ⟨-, e0, -⟩ | ⟨g2, rfl, -, rfl, hrow⟩
    · exact absurd (List.eq_nil_of_length_eq_zero (hA.size.trans e0)) h0
    · exact ⟨hb, g2, rfl, hrow⟩
  obtain ⟨⟨hK1, hK2⟩, hsc2, hleast⟩ := scale_facts hall hno
  obtain ⟨hl, -, -, hz, hat, -⟩ := hA
  obtain ⟨b, off, rfl, hc⟩ := hat.resolve_left h0
  have HC : Hid (∀ k, k < fs.length → w.cell? ⟨b, off + k * 2, none⟩ = some (.int .i64 (nthN fs k)) ∧ w.cell? ⟨b, off + k * 2 + 1, none⟩ = some (.int .i64 (nthD fs k))) := hc
  have HB : Hid (allB fs = true) := hall
  clear hc hat hall h0 hno
  go_enter Try.func7, Try.ntmps7
  go_wp2_with (first
    | (go_at_call 15; refine hlent.mono ?_; rintro e w1 ⟨g, capg, rfl, hcg, hL, hb1⟩)
    | (go_at_call 19; refine (hsc _ _ _ hL.at).mono ?_; rintro e w2 ⟨hb2, g2, rfl, hrow⟩; have B2 := hb1.trans (hb2.mono hb1.size)))
  clear hb1 hb2 hsc hlent
  have HR : Hid (w2.rowIs g2 3 len (fun i => .int .i64 (nth (scL K fs) i))) := hrow
  have HSC : Hid (∀ k, k < fs.length → (-9223372036854775808 ≤ nth (scL K fs) k ∧ nth (scL K fs) k ≤ 9223372036854775807) ∧ nth (scL K fs) k * nthD fs k = (K : Int) * nthN fs k) := hsc2
  have HLS : Hid (∀ m : Int, 0 < m → divB m fs = true → m.tmod (K : Int) = 0) := hleast
  have HC2 : Hid (∀ k, k < fs.length → w2.cell? ⟨b, off + k * 2, none⟩ = some (.int .i64 (nthN fs k)) ∧ w2.cell? ⟨b, off + k * 2 + 1, none⟩ = some (.int .i64 (nthD fs k))) := fun k hk => by
    obtain ⟨q1, q2⟩ := HC.out k hk
    have hlt' := block_lt_of_cell q1
    exact ⟨by rw [B2.cell (p := ⟨b, off + k * 2, none⟩) hlt']; exact q1, by rw [B2.cell (p := ⟨b, off + k * 2 + 1, none⟩) hlt']; exact q2⟩
  clear hrow hsc2 hleast HC
  go_loopg [8, 9] len (fun gk s i wr => ∃ (k : Nat) (t : Bool), k ≤ len ∧ gk = len - k ∧ i = .int .i64 k ∧ s = .bool t ∧ (t && divB m (fs.drop k)) = (decide (0 < m) && divB m fs) ∧ Below w2.heap.size w2 wr)
  case atStart => exact ⟨0, _, Nat.zero_le _, rfl, rfl, rfl, rfl, Below.refl _ _⟩
  case round =>
    obtain ⟨k, t, hk, rfl, rfl, rfl, ht, hbel⟩ := hrel
    have HT : Hid ((t && divB m (fs.drop k)) = (decide (0 < m) && divB m fs)) := ht
    clear ht
    by_cases hlt : k < len
    · obtain ⟨q1, q2⟩ := HC2.out k (by omega)
      have hlt' := block_lt_of_cell q1
      have hck1 : wr.cell? ⟨b, off + k * 2, none⟩ = some (.int .i64 (nthN fs k)) := by rw [hbel.cell (p := ⟨b, off + k * 2, none⟩) hlt']; exact q1
      have hck2 : wr.cell? ⟨b, off + k * 2 + 1, none⟩ = some (.int .i64 (nthD fs k)) := by rw [hbel.cell (p := ⟨b, off + k * 2 + 1, none⟩) hlt']; exact q2
      obtain ⟨z1, z2⟩ := hz k
      have hB : validB (nthN fs k) (nthD fs k) = true := allB_nth HB.out (by omega)
      have HD : Hid (fs.drop k = (nthN fs k, nthD fs k) :: fs.drop (k + 1)) := dropP (by omega)
      have hv := fun W => valid_any (nthN fs k) (nthD fs k) W z1 z2
      clear q1 q2
      generalize nthN fs k = x at *
      generalize nthD fs k = y at *
      · rw [hB] at hv
        have hy := valid_pos' hB
        have hm1 := rem_facts m y (by omega) hm.1 hm.2
        have hm2 : wrap64 (m.tmod y) = m.tmod y := hm1.1
        have hm3 : IntKind.i64.wrap (m.tmod y) = m.tmod y := by rw [IntKind.wrap_i64]; have := hm1.2.1; omega
        have hy0 : ¬ y = 0 := by omega
        clear hB hm1
        have hck2' : ∀ w3, Below wr.heap.size wr w3 → w3.cell? ⟨b, off + k * 2 + 1, none⟩ = some (.int .i64 y) := fun w3 h3 => by rw [h3.cell (p := ⟨b, off + k * 2 + 1, none⟩) (Nat.lt_of_lt_of_le hlt' hbel.size)]; exact hck2
        by_cases hr0 : m.tmod y = 0
        · have hq : (m.tmod y != 0) = false := by simpa using hr0
          have HT2 : Hid ((t && divB m (fs.drop (k + 1))) = (decide (0 < m) && divB m fs)) := by show _ = _; rw [← HT.out, HD.out, divB, decide_eq_true hr0, Bool.true_and]
          clear hr0
          go_wp2_with (go_at_call 16; refine (hv _).mono ?_; rintro e w3 ⟨rfl, hb3⟩; have hc3 := hck2' w3 hb3)
          go_roundg (len - (k + 1))
          case measure => omega
          case rel => exact ⟨k + 1, t, by omega, rfl, by go_num, rfl, HT2.out, hbel.trans (hb3.mono hbel.size)⟩
        · have hq : (m.tmod y != 0) = true := by simpa using hr0
          have HT2 : Hid ((false && divB m (fs.drop (k + 1))) = (decide (0 < m) && divB m fs)) := by show _ = _; rw [← HT.out, HD.out, divB, decide_eq_false hr0]; cases t <;> rfl
          clear hr0
          go_wp2_with (go_at_call 16; refine (hv _).mono ?_; rintro e w3 ⟨rfl, hb3⟩; have hc3 := hck2' w3 hb3)
          go_roundg (len - (k + 1))
          case measure => omega
          case rel => exact ⟨k + 1, false, by omega, rfl, by go_num, rfl, HT2.out, hbel.trans (hb3.mono hbel.size)⟩
    · have ht2 : t = (decide (0 < m) && divB m fs) := by
        have := HT.out
        rw [dropP_end (by omega), divB, Bool.and_true] at this
        exact this
      have hee : ((len : Int) != (len : Int)) = false := by simp
      have hk1 : ¬ (K : Int) < 1 := by omega
      have hk0 : ¬ (K : Int) = 0 := by omega
      have hm1 := rem_facts m (K : Int) (by omega) hm.1 hm.2
      have hm2 : wrap64 (m.tmod (K : Int)) = m.tmod (K : Int) := hm1.1
      have hm4 : t = true → (m.tmod (K : Int) != 0) = false := fun h => by
        rw [h] at ht2
        have h3 := ht2.symm
        rw [Bool.and_eq_true, decide_eq_true_eq] at h3
        rw [HLS.out m h3.1 h3.2]; rfl
      have ek : len = k := by omega
      subst ek
      have hkk : ¬ (len : Int) < (len : Int) := by omega
      clear ht2 HT hm1 hK1 hlt hk
      cases t
      · clear hm4 hm2
        go_wp2
        clear hm hk0
        go_loopg [10] len (fun gk i wr => ∃ (k : Nat), k ≤ len ∧ gk = len - k ∧ i = .int .i64 k ∧ Below w2.heap.size w2 wr)
        case atStart => exact ⟨0, Nat.zero_le _, rfl, rfl, hbel⟩
        case round =>
        
        
          obtain ⟨k, hk, rfl, rfl, hbel⟩ := hrel
          by_cases hlt : k < len
          · obtain ⟨q1, q2⟩ := HC2.out k (by omega)
            have q0 : w2.cell? ⟨g2, k, none⟩ = some (.int .i64 (nth (scL K fs) k)) := HR.out.cell hlt
            have H0 : Hid (∀ W', Below wr.heap.size wr W' → W'.cell? ⟨g2, k, none⟩ = some (.int .i64 (nth (scL K fs) k))) := fun W' h => by rw [(hbel.trans (h.mono hbel.size)).cell (p := ⟨g2, k, none⟩) (block_lt_of_cell q0)]; exact q0
            have H1 : Hid (∀ W', Below wr.heap.size wr W' → W'.cell? ⟨b, off + k * 2, none⟩ = some (.int .i64 (nthN fs k))) := fun W' h => by rw [(hbel.trans (h.mono hbel.size)).cell (p := ⟨b, off + k * 2, none⟩) (block_lt_of_cell q1)]; exact q1
            have H2 : Hid (∀ W', Below wr.heap.size wr W' → W'.cell? ⟨b, off + k * 2 + 1, none⟩ = some (.int .i64 (nthD fs k))) := fun W' h => by rw [(hbel.trans (h.mono hbel.size)).cell (p := ⟨b, off + k * 2 + 1, none⟩) (block_lt_of_cell q2)]; exact q2
            have Oz : Hid (∀ W, Calls Try.prog 12 #[.int .i64 (nth (scL K fs) k)] W (MadeWh W (nth (scL K fs) k) 3)) := fun W => of_any _ W (HSC.out k (by omega)).1
            have Oy : Hid (∀ W, Calls Try.prog 12 #[.int .i64 (nthD fs k)] W (MadeWh W (nthD fs k) 3)) := fun W => of_any _ W (hz k).2
            have Ox : Hid (∀ W, Calls Try.prog 12 #[.int .i64 (nthN fs k)] W (MadeWh W (nthN fs k) 3)) := fun W => of_any _ W (hz k).1
            have OK : Hid (∀ W, Calls Try.prog 12 #[.int .i64 (K : Int)] W (MadeWh W (K : Int) 3)) := fun W => of_any _ W ⟨by omega, by omega⟩
            have HE : Hid (nth (scL K fs) k * nthD fs k = (K : Int) * nthN fs k) := (HSC.out k (by omega)).2
            have hki : (k : Int) < (len : Int) := by omega
            clear q0 q1 q2 HR HSC HC2 HLS HB hz
            generalize nth (scL K fs) k = z at *
            generalize nthN fs k = x at *
            generalize nthD fs k = y at *
            go_wp2
            refine wp_region_said 13 (fun i u v => match i with
                | 0 => v = .slice (some ⟨g2, 0, none⟩) len len
                | 1 => v = .int .i64 (k : Int)
                | 2 => v = .pointer (some ⟨g2, k, none⟩)
                | 3 => v = .int .i64 z
                | 4 => IsWh u z 3 v
                | 5 => v = .slice (some ⟨b, off, none⟩) len cap
                | 6 => v = .int .i64 (k : Int)
                | 7 => v = .pointer (some ⟨b, off + k * 2, none⟩)
                | 8 => v = .pointer (some ⟨b, off + k * 2 + 1, none⟩)
                | 9 => v = .int .i64 y
                | 10 => IsWh u y 3 v
                | 11 => IsWh u (z * y) 6 v
                | 12 => IsNew wr.heap.size u (.bool false) (.slice none 0 0) v
                | _ => True) (by kernel_rfl) (by kernel_rfl) (by kernel_rfl) (by kernel_rfl) ?_ ?_ ?_
            · intro i w v w' h hb
              match i, h with
              | 0, h => exact h
              | 1, h => exact h
              | 2, h => exact h
              | 3, h => exact h
              | 4, h => exact IsWh.later h hb
              | 5, h => exact h
              | 6, h => exact h
              | 7, h => exact h
              | 8, h => exact h
              | 9, h => exact h
              | 10, h => exact IsWh.later h hb
              | 11, h => exact IsWh.later h hb
              | 12, h => exact IsNew.later h hb
              | _ + 13, _ => trivial
            · intro i o ρ w' hi ho hb hc hf hfr hdep
              have g0 := H0.out _ hb
              have g1 := H1.out _ hb
              have k2 := H2.out _ hb
              match i, hi with
              | 0, _ =>
                simp only [List.getElem?_toArray, List.getElem?_cons_zero, Option.some.injEq] at ho
                subst ho
                have ts : ρ (.tmp 6) = .slice (some ⟨g2, 0, none⟩) len len := hfr 6 (by kernel_rfl)
                simp [go_sem, ts]
                exact ⟨Below.refl _ _, rfl⟩
              | 1, _ =>
                simp only [List.getElem?_toArray, List.getElem?_cons_zero, List.getElem?_cons_succ, Option.some.injEq] at ho
                subst ho
                have ts : ρ (.tmp 10) = .int .i64 (k : Int) := hfr 10 (by kernel_rfl)
                simp [go_sem, ts]
                exact ⟨Below.refl _ _, rfl⟩
              | 2, _ =>
                simp only [List.getElem?_toArray, List.getElem?_cons_zero, List.getElem?_cons_succ, Option.some.injEq] at ho
                subst ho
                have t1 : ρ (.tmp 96) = .slice (some ⟨g2, 0, none⟩) len len := hdep 0 96 (by kernel_rfl) (by kernel_rfl)
                have t2 : ρ (.tmp 97) = .int .i64 (k : Int) := hdep 1 97 (by kernel_rfl) (by kernel_rfl)
                simp [go_sem, t1, t2, hki]
                exact ⟨Below.refl _ _, rfl⟩
              | 3, _ =>
                simp only [List.getElem?_toArray, List.getElem?_cons_zero, List.getElem?_cons_succ, Option.some.injEq] at ho
                subst ho
                have ts : ρ (.tmp 98) = .pointer (some ⟨g2, k, none⟩) := hdep 2 98 (by kernel_rfl) (by kernel_rfl)
                simp [go_sem, ts, g0]
                exact ⟨Below.refl _ _, rfl⟩
              | 4, _ =>
                simp only [List.getElem?_toArray, List.getElem?_cons_zero, List.getElem?_cons_succ, Option.some.injEq] at ho
                subst ho
                have ts : ρ (.tmp 99) = .int .i64 z := hdep 3 99 (by kernel_rfl) (by kernel_rfl)
                simp [go_sem, ts, hf]
                exact ⟨rfl, of_said (Oz.out _)⟩
              | 5, _ =>
                simp only [List.getElem?_toArray, List.getElem?_cons_zero, List.getElem?_cons_succ, Option.some.injEq] at ho
                subst ho
                have ts : ρ (.tmp 0) = .slice (some ⟨b, off, none⟩) len cap := hfr 0 (by kernel_rfl)
                simp [go_sem, ts]
                exact ⟨Below.refl _ _, rfl⟩
              | 6, _ =>
                simp only [List.getElem?_toArray, List.getElem?_cons_zero, List.getElem?_cons_succ, Option.some.injEq] at ho
                subst ho
                have ts : ρ (.tmp 10) = .int .i64 (k : Int) := hfr 10 (by kernel_rfl)
                simp [go_sem, ts]
                exact ⟨Below.refl _ _, rfl⟩
              | 7, _ =>
                simp only [List.getElem?_toArray, List.getElem?_cons_zero, List.getElem?_cons_succ, Option.some.injEq] at ho
                subst ho
                have t1 : ρ (.tmp 101) = .slice (some ⟨b, off, none⟩) len cap := hdep 5 101 (by kernel_rfl) (by kernel_rfl)
                have t2 : ρ (.tmp 102) = .int .i64 (k : Int) := hdep 6 102 (by kernel_rfl) (by kernel_rfl)
                simp [go_sem, t1, t2, hki]
                exact ⟨Below.refl _ _, rfl⟩
              | 8, _ =>
                simp only [List.getElem?_toArray, List.getElem?_cons_zero, List.getElem?_cons_succ, Option.some.injEq] at ho
                subst ho
                have ts : ρ (.tmp 103) = .pointer (some ⟨b, off + k * 2, none⟩) := hdep 7 103 (by kernel_rfl) (by kernel_rfl)
                simp [go_sem, ts]
                exact ⟨Below.refl _ _, rfl⟩
              | 9, _ =>
                simp only [List.getElem?_toArray, List.getElem?_cons_zero, List.getElem?_cons_succ, Option.some.injEq] at ho
                subst ho
                have ts : ρ (.tmp 104) = .pointer (some ⟨b, off + k * 2 + 1, none⟩) := hdep 8 104 (by kernel_rfl) (by kernel_rfl)
                simp [go_sem, ts, k2]
                exact ⟨Below.refl _ _, rfl⟩
              | 10, _ =>
                simp only [List.getElem?_toArray, List.getElem?_cons_zero, List.getElem?_cons_succ, Option.some.injEq] at ho
                subst ho
                have ts : ρ (.tmp 105) = .int .i64 y := hdep 9 105 (by kernel_rfl) (by kernel_rfl)
                simp [go_sem, ts, hf]
                exact ⟨rfl, of_said (Oy.out _)⟩
              | 11, _ =>
                simp only [List.getElem?_toArray, List.getElem?_cons_zero, List.getElem?_cons_succ, Option.some.injEq] at ho
                subst ho
                obtain ⟨m0, a0, l0, p0, d0, e0, x0, y0⟩ : IsWh w' z 3 (ρ (.tmp 100)) := hdep 4 100 (by kernel_rfl) (by kernel_rfl)
                obtain ⟨m1, a1, l1, p1, d1, e1, x1, y1⟩ : IsWh w' y 3 (ρ (.tmp 106)) := hdep 10 106 (by kernel_rfl) (by kernel_rfl)
                simp [go_sem, e0, e1, hf]
                exact ⟨rfl, times_said ⟨m0, a0, l0, p0, d0, rfl, x0, y0⟩ ⟨m1, a1, l1, p1, d1, rfl, x1, y1⟩ (by decide)⟩
              | 12, _ =>
                simp only [List.getElem?_toArray, List.getElem?_cons_zero, List.getElem?_cons_succ, Option.some.injEq] at ho
                subst ho
                simp [go_sem]
                exact ⟨(Below.refl _ _).alloc (Nat.le_refl _) _, _, rfl, var2_new _ _ _ _, hb.size⟩
            · intro V w3 q3 hS
              have e0 : V 0 = .slice (some ⟨g2, 0, none⟩) len len := hS 0 (by decide)
              have e1 : V 1 = .int .i64 (k : Int) := hS 1 (by decide)
              have e2 : V 2 = .pointer (some ⟨g2, k, none⟩) := hS 2 (by decide)
              have e3 : V 3 = .int .i64 z := hS 3 (by decide)
              obtain ⟨m4, a4, l4, p4, d4, e4, -, -⟩ : IsWh w3 z 3 (V 4) := hS 4 (by decide)
              have e5 : V 5 = .slice (some ⟨b, off, none⟩) len cap := hS 5 (by decide)
              have e6 : V 6 = .int .i64 (k : Int) := hS 6 (by decide)
              have e7 : V 7 = .pointer (some ⟨b, off + k * 2, none⟩) := hS 7 (by decide)
              have e8 : V 8 = .pointer (some ⟨b, off + k * 2 + 1, none⟩) := hS 8 (by decide)
              have e9 : V 9 = .int .i64 y := hS 9 (by decide)
              obtain ⟨m10, a10, l10, p10, d10, e10, -, -⟩ : IsWh w3 y 3 (V 10) := hS 10 (by decide)
              obtain ⟨m11, a11, l11, p11, d11, e11, hw6, -⟩ : IsWh w3 (z * y) 6 (V 11) := hS 11 (by decide)
              obtain ⟨b12, e12, Z12, B12⟩ : IsNew wr.heap.size w3 (.bool false) (.slice none 0 0) (V 12) := hS 12 (by decide)
              simp only [List.drop_succ_cons, List.drop_zero, List.take_succ_cons, List.take_zero, puts, e0, e1, e2, e3, e4, e5, e6, e7, e8, e9, e10, e11, e12]
              clear hS e0 e1 e2 e3 e4 e5 e6 e7 e8 e9 e10 e11 e12 V
              have X3 := Z12.put (.bool m11) (.slice a11 l11 p11)
              have hx3 := hw6.store2 Z12 (fun _ h => by cases h) (fun _ h => by cases h) (.bool m11) (.slice a11 l11 p11)
              have q3' := (q3.setCell (p := ⟨b12, 0, none⟩) B12 (.bool m11)).setCell (p := ⟨b12, 1, none⟩) B12 (.slice a11 l11 p11)
              have z0 := Z12.c0
              have z1 := Z12.c1
              have zf0 := Z12.f0
              have zf1 := Z12.f1
              clear q3 Z12 hw6
              go_wp2
              clear z0 z1 zf0 zf1
              generalize ((w3.setCell ⟨b12, 0, none⟩ (.bool m11)).setCell ⟨b12, 1, none⟩ (.slice a11 l11 p11)) = w4 at *
              refine wp_region_said 10 (fun i u v => match i with
                  | 0 => v = .int .i64 (K : Int)
                  | 1 => IsWh u (K : Int) 3 v
                  | 2 => v = .slice (some ⟨b, off, none⟩) len cap
                  | 3 => v = .int .i64 (k : Int)
                  | 4 => v = .pointer (some ⟨b, off + k * 2, none⟩)
                  | 5 => v = .pointer (some ⟨b, off + k * 2, none⟩)
                  | 6 => v = .int .i64 x
                  | 7 => IsWh u x 3 v
                  | 8 => IsWh u ((K : Int) * x) 6 v
                  | 9 => IsNew w4.heap.size u (.bool false) (.slice none 0 0) v
                  | _ => True) (by kernel_rfl) (by kernel_rfl) (by kernel_rfl) (by kernel_rfl) ?_ ?_ ?_
              · intro i w v w' h hb
                match i, h with
                | 0, h => exact h
                | 1, h => exact IsWh.later h hb
                | 2, h => exact h
                | 3, h => exact h
                | 4, h => exact h
                | 5, h => exact h
                | 6, h => exact h
                | 7, h => exact IsWh.later h hb
                | 8, h => exact IsWh.later h hb
                | 9, h => exact IsNew.later h hb
                | _ + 10, _ => trivial
              · intro i o ρ w' hi ho hb hc hf hfr hdep
                have g1 := H1.out _ (q3'.trans (hb.mono q3'.size))
                match i, hi with
                | 0, _ =>
                  simp only [List.getElem?_toArray, List.getElem?_cons_zero, Option.some.injEq] at ho
                  subst ho
                  have ts : ρ (.tmp 5) = .int .i64 (K : Int) := hfr 5 (by kernel_rfl)
                  simp [go_sem, ts]
                  exact ⟨Below.refl _ _, rfl⟩
                | 1, _ =>
                  simp only [List.getElem?_toArray, List.getElem?_cons_zero, List.getElem?_cons_succ, Option.some.injEq] at ho
                  subst ho
                  have ts : ρ (.tmp 108) = .int .i64 (K : Int) := hdep 0 108 (by kernel_rfl) (by kernel_rfl)
                  simp [go_sem, ts, hf]
                  exact ⟨rfl, of_said (OK.out _)⟩
                | 2, _ =>
                  simp only [List.getElem?_toArray, List.getElem?_cons_zero, List.getElem?_cons_succ, Option.some.injEq] at ho
                  subst ho
                  have ts : ρ (.tmp 0) = .slice (some ⟨b, off, none⟩) len cap := hfr 0 (by kernel_rfl)
                  simp [go_sem, ts]
                  exact ⟨Below.refl _ _, rfl⟩
                | 3, _ =>
                  simp only [List.getElem?_toArray, List.getElem?_cons_zero, List.getElem?_cons_succ, Option.some.injEq] at ho
                  subst ho
                  have ts : ρ (.tmp 10) = .int .i64 (k : Int) := hfr 10 (by kernel_rfl)
                  simp [go_sem, ts]
                  exact ⟨Below.refl _ _, rfl⟩
                | 4, _ =>
                  simp only [List.getElem?_toArray, List.getElem?_cons_zero, List.getElem?_cons_succ, Option.some.injEq] at ho
                  subst ho
                  have t1 : ρ (.tmp 110) = .slice (some ⟨b, off, none⟩) len cap := hdep 2 110 (by kernel_rfl) (by kernel_rfl)
                  have t2 : ρ (.tmp 111) = .int .i64 (k : Int) := hdep 3 111 (by kernel_rfl) (by kernel_rfl)
                  simp [go_sem, t1, t2, hki]
                  exact ⟨Below.refl _ _, rfl⟩
                | 5, _ =>
                  simp only [List.getElem?_toArray, List.getElem?_cons_zero, List.getElem?_cons_succ, Option.some.injEq] at ho
                  subst ho
                  have ts : ρ (.tmp 112) = .pointer (some ⟨b, off + k * 2, none⟩) := hdep 4 112 (by kernel_rfl) (by kernel_rfl)
                  simp [go_sem, ts]
                  exact ⟨Below.refl _ _, rfl⟩
                | 6, _ =>
                  simp only [List.getElem?_toArray, List.getElem?_cons_zero, List.getElem?_cons_succ, Option.some.injEq] at ho
                  subst ho
                  have ts : ρ (.tmp 113) = .pointer (some ⟨b, off + k * 2, none⟩) := hdep 5 113 (by kernel_rfl) (by kernel_rfl)
                  simp [go_sem, ts, g1]
                  exact ⟨Below.refl _ _, rfl⟩
                | 7, _ =>
                  simp only [List.getElem?_toArray, List.getElem?_cons_zero, List.getElem?_cons_succ, Option.some.injEq] at ho
                  subst ho
                  have ts : ρ (.tmp 114) = .int .i64 x := hdep 6 114 (by kernel_rfl) (by kernel_rfl)
                  simp [go_sem, ts, hf]
                  exact ⟨rfl, of_said (Ox.out _)⟩
                | 8, _ =>
                  simp only [List.getElem?_toArray, List.getElem?_cons_zero, List.getElem?_cons_succ, Option.some.injEq] at ho
                  subst ho
                  obtain ⟨m0, a0, l0, p0, d0, e0, x0, y0⟩ : IsWh w' (K : Int) 3 (ρ (.tmp 109)) := hdep 1 109 (by kernel_rfl) (by kernel_rfl)
                  obtain ⟨m1, a1, l1, p1, d1, e1, x1, y1⟩ : IsWh w' x 3 (ρ (.tmp 115)) := hdep 7 115 (by kernel_rfl) (by kernel_rfl)
                  simp [go_sem, e0, e1, hf]
                  exact ⟨rfl, times_said ⟨m0, a0, l0, p0, d0, rfl, x0, y0⟩ ⟨m1, a1, l1, p1, d1, rfl, x1, y1⟩ (by decide)⟩
                | 9, _ =>
                  simp only [List.getElem?_toArray, List.getElem?_cons_zero, List.getElem?_cons_succ, Option.some.injEq] at ho
                  subst ho
                  simp [go_sem]
                  exact ⟨(Below.refl _ _).alloc (Nat.le_refl _) _, _, rfl, var2_new _ _ _ _, hb.size⟩
              · intro V w5 q5 hS
                have e0 : V 0 = .int .i64 (K : Int) := hS 0 (by decide)
                obtain ⟨m1, a1, l1, p1, d1, e1, -, -⟩ : IsWh w5 (K : Int) 3 (V 1) := hS 1 (by decide)
                have e2 : V 2 = .slice (some ⟨b, off, none⟩) len cap := hS 2 (by decide)
                have e3 : V 3 = .int .i64 (k : Int) := hS 3 (by decide)
                have e4 : V 4 = .pointer (some ⟨b, off + k * 2, none⟩) := hS 4 (by decide)
                have e5 : V 5 = .pointer (some ⟨b, off + k * 2, none⟩) := hS 5 (by decide)
                have e6 : V 6 = .int .i64 x := hS 6 (by decide)
                obtain ⟨m7, a7, l7, p7, d7, e7, -, -⟩ : IsWh w5 x 3 (V 7) := hS 7 (by decide)
                obtain ⟨m8, a8, l8, p8, d8, e8, hw6b, -⟩ : IsWh w5 ((K : Int) * x) 6 (V 8) := hS 8 (by decide)
                obtain ⟨b9, e9, Z9, B9⟩ : IsNew w4.heap.size w5 (.bool false) (.slice none 0 0) (V 9) := hS 9 (by decide)
                simp only [List.drop_succ_cons, List.drop_zero, List.take_succ_cons, List.take_zero, puts, e0, e1, e2, e3, e4, e5, e6, e7, e8, e9]
                clear hS e0 e1 e2 e3 e4 e5 e6 e7 e8 e9 V
                have Y5 := Z9.put (.bool m8) (.slice a8 l8 p8)
                have hy5 := hw6b.store2 Z9 (fun _ h => by cases h) (fun _ h => by cases h) (.bool m8) (.slice a8 l8 p8)
                have q5' := (q5.setCell (p := ⟨b9, 0, none⟩) B9 (.bool m8)).setCell (p := ⟨b9, 1, none⟩) B9 (.slice a8 l8 p8)
                have z0 := Z9.c0
                have z1 := Z9.c1
                have zf0 := Z9.f0
                have zf1 := Z9.f1
                have X5 := X3.later q5' X3.lt
                have hx5 := hx3.below q5'
                have LW5 := q3'.trans (q5'.mono q3'.size)
                have x0 := X5.c0
                have x1 := X5.c1
                have y0 := Y5.c0
                have y1 := Y5.c1
                have hcm : cmpI (z * y) ((K : Int) * x) = 0 := by rw [HE.out]; exact cmpI_eq rfl
                clear q5 q5' q3' Z9 hw6b
                go_wp2_with (go_at_call 13; refine (cmp_any _ _ _ _ _ _ _ _ _ _ _ _ _ hx5 hy5).mono ?_; rintro e w6 ⟨rfl, hb6⟩; rw [hcm])
                go_roundg (len - (k + 1))
                case measure => omega
                case rel => exact ⟨k + 1, by omega, rfl, by go_num, hbel.trans ((LW5.trans (hb6.mono LW5.size)).mono hbel.size)⟩
          · have ek : len = k := by omega
            subst ek
            have hkk : ¬ (len : Int) < (len : Int) := by omega
            clear hlt hk
            go_wp2_with (go_at_call 10; refine (awake2 _).mono ?_; rintro e w3 ⟨rfl, hb3⟩)
            go_ret
            exact ⟨rfl, (B2.trans (hbel.mono B2.size)).trans (hb3.mono (B2.trans (hbel.mono B2.size)).size)⟩
      · have hq : (m.tmod (K : Int) != 0) = false := hm4 rfl
        clear hm4
        go_wp2
        clear hm hk0
        go_loopg [10] len (fun gk i wr => ∃ (k : Nat), k ≤ len ∧ gk = len - k ∧ i = .int .i64 k ∧ Below w2.heap.size w2 wr)
        case atStart => exact ⟨0, Nat.zero_le _, rfl, rfl, hbel⟩
        case round =>
        
        
          obtain ⟨k, hk, rfl, rfl, hbel⟩ := hrel
          by_cases hlt : k < len
          · obtain ⟨q1, q2⟩ := HC2.out k (by omega)
            have q0 : w2.cell? ⟨g2, k, none⟩ = some (.int .i64 (nth (scL K fs) k)) := HR.out.cell hlt
            have H0 : Hid (∀ W', Below wr.heap.size wr W' → W'.cell? ⟨g2, k, none⟩ = some (.int .i64 (nth (scL K fs) k))) := fun W' h => by rw [(hbel.trans (h.mono hbel.size)).cell (p := ⟨g2, k, none⟩) (block_lt_of_cell q0)]; exact q0
            have H1 : Hid (∀ W', Below wr.heap.size wr W' → W'.cell? ⟨b, off + k * 2, none⟩ = some (.int .i64 (nthN fs k))) := fun W' h => by rw [(hbel.trans (h.mono hbel.size)).cell (p := ⟨b, off + k * 2, none⟩) (block_lt_of_cell q1)]; exact q1
            have H2 : Hid (∀ W', Below wr.heap.size wr W' → W'.cell? ⟨b, off + k * 2 + 1, none⟩ = some (.int .i64 (nthD fs k))) := fun W' h => by rw [(hbel.trans (h.mono hbel.size)).cell (p := ⟨b, off + k * 2 + 1, none⟩) (block_lt_of_cell q2)]; exact q2
            have Oz : Hid (∀ W, Calls Try.prog 12 #[.int .i64 (nth (scL K fs) k)] W (MadeWh W (nth (scL K fs) k) 3)) := fun W => of_any _ W (HSC.out k (by omega)).1
            have Oy : Hid (∀ W, Calls Try.prog 12 #[.int .i64 (nthD fs k)] W (MadeWh W (nthD fs k) 3)) := fun W => of_any _ W (hz k).2
            have Ox : Hid (∀ W, Calls Try.prog 12 #[.int .i64 (nthN fs k)] W (MadeWh W (nthN fs k) 3)) := fun W => of_any _ W (hz k).1
            have OK : Hid (∀ W, Calls Try.prog 12 #[.int .i64 (K : Int)] W (MadeWh W (K : Int) 3)) := fun W => of_any _ W ⟨by omega, by omega⟩
            have HE : Hid (nth (scL K fs) k * nthD fs k = (K : Int) * nthN fs k) := (HSC.out k (by omega)).2
            have hki : (k : Int) < (len : Int) := by omega
            clear q0 q1 q2 HR HSC HC2 HLS HB hz
            generalize nth (scL K fs) k = z at *
            generalize nthN fs k = x at *
            generalize nthD fs k = y at *
            go_wp2
            refine wp_region_said 13 (fun i u v => match i with
                | 0 => v = .slice (some ⟨g2, 0, none⟩) len len
                | 1 => v = .int .i64 (k : Int)
                | 2 => v = .pointer (some ⟨g2, k, none⟩)
                | 3 => v = .int .i64 z
                | 4 => IsWh u z 3 v
                | 5 => v = .slice (some ⟨b, off, none⟩) len cap
                | 6 => v = .int .i64 (k : Int)
                | 7 => v = .pointer (some ⟨b, off + k * 2, none⟩)
                | 8 => v = .pointer (some ⟨b, off + k * 2 + 1, none⟩)
                | 9 => v = .int .i64 y
                | 10 => IsWh u y 3 v
                | 11 => IsWh u (z * y) 6 v
                | 12 => IsNew wr.heap.size u (.bool false) (.slice none 0 0) v
                | _ => True) (by kernel_rfl) (by kernel_rfl) (by kernel_rfl) (by kernel_rfl) ?_ ?_ ?_
            · intro i w v w' h hb
              match i, h with
              | 0, h => exact h
              | 1, h => exact h
              | 2, h => exact h
              | 3, h => exact h
              | 4, h => exact IsWh.later h hb
              | 5, h => exact h
              | 6, h => exact h
              | 7, h => exact h
              | 8, h => exact h
              | 9, h => exact h
              | 10, h => exact IsWh.later h hb
              | 11, h => exact IsWh.later h hb
              | 12, h => exact IsNew.later h hb
              | _ + 13, _ => trivial
            · intro i o ρ w' hi ho hb hc hf hfr hdep
              have g0 := H0.out _ hb
              have g1 := H1.out _ hb
              have k2 := H2.out _ hb
              match i, hi with
              | 0, _ =>
                simp only [List.getElem?_toArray, List.getElem?_cons_zero, Option.some.injEq] at ho
                subst ho
                have ts : ρ (.tmp 6) = .slice (some ⟨g2, 0, none⟩) len len := hfr 6 (by kernel_rfl)
                simp [go_sem, ts]
                exact ⟨Below.refl _ _, rfl⟩
              | 1, _ =>
                simp only [List.getElem?_toArray, List.getElem?_cons_zero, List.getElem?_cons_succ, Option.some.injEq] at ho
                subst ho
                have ts : ρ (.tmp 10) = .int .i64 (k : Int) := hfr 10 (by kernel_rfl)
                simp [go_sem, ts]
                exact ⟨Below.refl _ _, rfl⟩
              | 2, _ =>
                simp only [List.getElem?_toArray, List.getElem?_cons_zero, List.getElem?_cons_succ, Option.some.injEq] at ho
                subst ho
                have t1 : ρ (.tmp 96) = .slice (some ⟨g2, 0, none⟩) len len := hdep 0 96 (by kernel_rfl) (by kernel_rfl)
                have t2 : ρ (.tmp 97) = .int .i64 (k : Int) := hdep 1 97 (by kernel_rfl) (by kernel_rfl)
                simp [go_sem, t1, t2, hki]
                exact ⟨Below.refl _ _, rfl⟩
              | 3, _ =>
                simp only [List.getElem?_toArray, List.getElem?_cons_zero, List.getElem?_cons_succ, Option.some.injEq] at ho
                subst ho
                have ts : ρ (.tmp 98) = .pointer (some ⟨g2, k, none⟩) := hdep 2 98 (by kernel_rfl) (by kernel_rfl)
                simp [go_sem, ts, g0]
                exact ⟨Below.refl _ _, rfl⟩
              | 4, _ =>
                simp only [List.getElem?_toArray, List.getElem?_cons_zero, List.getElem?_cons_succ, Option.some.injEq] at ho
                subst ho
                have ts : ρ (.tmp 99) = .int .i64 z := hdep 3 99 (by kernel_rfl) (by kernel_rfl)
                simp [go_sem, ts, hf]
                exact ⟨rfl, of_said (Oz.out _)⟩
              | 5, _ =>
                simp only [List.getElem?_toArray, List.getElem?_cons_zero, List.getElem?_cons_succ, Option.some.injEq] at ho
                subst ho
                have ts : ρ (.tmp 0) = .slice (some ⟨b, off, none⟩) len cap := hfr 0 (by kernel_rfl)
                simp [go_sem, ts]
                exact ⟨Below.refl _ _, rfl⟩
              | 6, _ =>
                simp only [List.getElem?_toArray, List.getElem?_cons_zero, List.getElem?_cons_succ, Option.some.injEq] at ho
                subst ho
                have ts : ρ (.tmp 10) = .int .i64 (k : Int) := hfr 10 (by kernel_rfl)
                simp [go_sem, ts]
                exact ⟨Below.refl _ _, rfl⟩
              | 7, _ =>
                simp only [List.getElem?_toArray, List.getElem?_cons_zero, List.getElem?_cons_succ, Option.some.injEq] at ho
                subst ho
                have t1 : ρ (.tmp 101) = .slice (some ⟨b, off, none⟩) len cap := hdep 5 101 (by kernel_rfl) (by kernel_rfl)
                have t2 : ρ (.tmp 102) = .int .i64 (k : Int) := hdep 6 102 (by kernel_rfl) (by kernel_rfl)
                simp [go_sem, t1, t2, hki]
                exact ⟨Below.refl _ _, rfl⟩
              | 8, _ =>
                simp only [List.getElem?_toArray, List.getElem?_cons_zero, List.getElem?_cons_succ, Option.some.injEq] at ho
                subst ho
                have ts : ρ (.tmp 103) = .pointer (some ⟨b, off + k * 2, none⟩) := hdep 7 103 (by kernel_rfl) (by kernel_rfl)
                simp [go_sem, ts]
                exact ⟨Below.refl _ _, rfl⟩
              | 9, _ =>
                simp only [List.getElem?_toArray, List.getElem?_cons_zero, List.getElem?_cons_succ, Option.some.injEq] at ho
                subst ho
                have ts : ρ (.tmp 104) = .pointer (some ⟨b, off + k * 2 + 1, none⟩) := hdep 8 104 (by kernel_rfl) (by kernel_rfl)
                simp [go_sem, ts, k2]
                exact ⟨Below.refl _ _, rfl⟩
              | 10, _ =>
                simp only [List.getElem?_toArray, List.getElem?_cons_zero, List.getElem?_cons_succ, Option.some.injEq] at ho
                subst ho
                have ts : ρ (.tmp 105) = .int .i64 y := hdep 9 105 (by kernel_rfl) (by kernel_rfl)
                simp [go_sem, ts, hf]
                exact ⟨rfl, of_said (Oy.out _)⟩
              | 11, _ =>
                simp only [List.getElem?_toArray, List.getElem?_cons_zero, List.getElem?_cons_succ, Option.some.injEq] at ho
                subst ho
                obtain ⟨m0, a0, l0, p0, d0, e0, x0, y0⟩ : IsWh w' z 3 (ρ (.tmp 100)) := hdep 4 100 (by kernel_rfl) (by kernel_rfl)
                obtain ⟨m1, a1, l1, p1, d1, e1, x1, y1⟩ : IsWh w' y 3 (ρ (.tmp 106)) := hdep 10 106 (by kernel_rfl) (by kernel_rfl)
                simp [go_sem, e0, e1, hf]
                exact ⟨rfl, times_said ⟨m0, a0, l0, p0, d0, rfl, x0, y0⟩ ⟨m1, a1, l1, p1, d1, rfl, x1, y1⟩ (by decide)⟩
              | 12, _ =>
                simp only [List.getElem?_toArray, List.getElem?_cons_zero, List.getElem?_cons_succ, Option.some.injEq] at ho
                subst ho
                simp [go_sem]
                exact ⟨(Below.refl _ _).alloc (Nat.le_refl _) _, _, rfl, var2_new _ _ _ _, hb.size⟩
            · intro V w3 q3 hS
              have e0 : V 0 = .slice (some ⟨g2, 0, none⟩) len len := hS 0 (by decide)
              have e1 : V 1 = .int .i64 (k : Int) := hS 1 (by decide)
              have e2 : V 2 = .pointer (some ⟨g2, k, none⟩) := hS 2 (by decide)
              have e3 : V 3 = .int .i64 z := hS 3 (by decide)
              obtain ⟨m4, a4, l4, p4, d4, e4, -, -⟩ : IsWh w3 z 3 (V 4) := hS 4 (by decide)
              have e5 : V 5 = .slice (some ⟨b, off, none⟩) len cap := hS 5 (by decide)
              have e6 : V 6 = .int .i64 (k : Int) := hS 6 (by decide)
              have e7 : V 7 = .pointer (some ⟨b, off + k * 2, none⟩) := hS 7 (by decide)
              have e8 : V 8 = .pointer (some ⟨b, off + k * 2 + 1, none⟩) := hS 8 (by decide)
              have e9 : V 9 = .int .i64 y := hS 9 (by decide)
              obtain ⟨m10, a10, l10, p10, d10, e10, -, -⟩ : IsWh w3 y 3 (V 10) := hS 10 (by decide)
              obtain ⟨m11, a11, l11, p11, d11, e11, hw6, -⟩ : IsWh w3 (z * y) 6 (V 11) := hS 11 (by decide)
              obtain ⟨b12, e12, Z12, B12⟩ : IsNew wr.heap.size w3 (.bool false) (.slice none 0 0) (V 12) := hS 12 (by decide)
              simp only [List.drop_succ_cons, List.drop_zero, List.take_succ_cons, List.take_zero, puts, e0, e1, e2, e3, e4, e5, e6, e7, e8, e9, e10, e11, e12]
              clear hS e0 e1 e2 e3 e4 e5 e6 e7 e8 e9 e10 e11 e12 V
              have X3 := Z12.put (.bool m11) (.slice a11 l11 p11)
              have hx3 := hw6.store2 Z12 (fun _ h => by cases h) (fun _ h => by cases h) (.bool m11) (.slice a11 l11 p11)
              have q3' := (q3.setCell (p := ⟨b12, 0, none⟩) B12 (.bool m11)).setCell (p := ⟨b12, 1, none⟩) B12 (.slice a11 l11 p11)
              have z0 := Z12.c0
              have z1 := Z12.c1
              have zf0 := Z12.f0
              have zf1 := Z12.f1
              clear q3 Z12 hw6
              go_wp2
              clear z0 z1 zf0 zf1
              generalize ((w3.setCell ⟨b12, 0, none⟩ (.bool m11)).setCell ⟨b12, 1, none⟩ (.slice a11 l11 p11)) = w4 at *
              refine wp_region_said 10 (fun i u v => match i with
                  | 0 => v = .int .i64 (K : Int)
                  | 1 => IsWh u (K : Int) 3 v
                  | 2 => v = .slice (some ⟨b, off, none⟩) len cap
                  | 3 => v = .int .i64 (k : Int)
                  | 4 => v = .pointer (some ⟨b, off + k * 2, none⟩)
                  | 5 => v = .pointer (some ⟨b, off + k * 2, none⟩)
                  | 6 => v = .int .i64 x
                  | 7 => IsWh u x 3 v
                  | 8 => IsWh u ((K : Int) * x) 6 v
                  | 9 => IsNew w4.heap.size u (.bool false) (.slice none 0 0) v
                  | _ => True) (by kernel_rfl) (by kernel_rfl) (by kernel_rfl) (by kernel_rfl) ?_ ?_ ?_
              · intro i w v w' h hb
                match i, h with
                | 0, h => exact h
                | 1, h => exact IsWh.later h hb
                | 2, h => exact h
                | 3, h => exact h
                | 4, h => exact h
                | 5, h => exact h
                | 6, h => exact h
                | 7, h => exact IsWh.later h hb
                | 8, h => exact IsWh.later h hb
                | 9, h => exact IsNew.later h hb
                | _ + 10, _ => trivial
              · intro i o ρ w' hi ho hb hc hf hfr hdep
                have g1 := H1.out _ (q3'.trans (hb.mono q3'.size))
                match i, hi with
                | 0, _ =>
                  simp only [List.getElem?_toArray, List.getElem?_cons_zero, Option.some.injEq] at ho
                  subst ho
                  have ts : ρ (.tmp 5) = .int .i64 (K : Int) := hfr 5 (by kernel_rfl)
                  simp [go_sem, ts]
                  exact ⟨Below.refl _ _, rfl⟩
                | 1, _ =>
                  simp only [List.getElem?_toArray, List.getElem?_cons_zero, List.getElem?_cons_succ, Option.some.injEq] at ho
                  subst ho
                  have ts : ρ (.tmp 108) = .int .i64 (K : Int) := hdep 0 108 (by kernel_rfl) (by kernel_rfl)
                  simp [go_sem, ts, hf]
                  exact ⟨rfl, of_said (OK.out _)⟩
                | 2, _ =>
                  simp only [List.getElem?_toArray, List.getElem?_cons_zero, List.getElem?_cons_succ, Option.some.injEq] at ho
                  subst ho
                  have ts : ρ (.tmp 0) = .slice (some ⟨b, off, none⟩) len cap := hfr 0 (by kernel_rfl)
                  simp [go_sem, ts]
                  exact ⟨Below.refl _ _, rfl⟩
                | 3, _ =>
                  simp only [List.getElem?_toArray, List.getElem?_cons_zero, List.getElem?_cons_succ, Option.some.injEq] at ho
                  subst ho
                  have ts : ρ (.tmp 10) = .int .i64 (k : Int) := hfr 10 (by kernel_rfl)
                  simp [go_sem, ts]
                  exact ⟨Below.refl _ _, rfl⟩
                | 4, _ =>
                  simp only [List.getElem?_toArray, List.getElem?_cons_zero, List.getElem?_cons_succ, Option.some.injEq] at ho
                  subst ho
                  have t1 : ρ (.tmp 110) = .slice (some ⟨b, off, none⟩) len cap := hdep 2 110 (by kernel_rfl) (by kernel_rfl)
                  have t2 : ρ (.tmp 111) = .int .i64 (k : Int) := hdep 3 111 (by kernel_rfl) (by kernel_rfl)
                  simp [go_sem, t1, t2, hki]
                  exact ⟨Below.refl _ _, rfl⟩
                | 5, _ =>
                  simp only [List.getElem?_toArray, List.getElem?_cons_zero, List.getElem?_cons_succ, Option.some.injEq] at ho
                  subst ho
                  have ts : ρ (.tmp 112) = .pointer (some ⟨b, off + k * 2, none⟩) := hdep 4 112 (by kernel_rfl) (by kernel_rfl)
                  simp [go_sem, ts]
                  exact ⟨Below.refl _ _, rfl⟩
                | 6, _ =>
                  simp only [List.getElem?_toArray, List.getElem?_cons_zero, List.getElem?_cons_succ, Option.some.injEq] at ho
                  subst ho
                  have ts : ρ (.tmp 113) = .pointer (some ⟨b, off + k * 2, none⟩) := hdep 5 113 (by kernel_rfl) (by kernel_rfl)
                  simp [go_sem, ts, g1]
                  exact ⟨Below.refl _ _, rfl⟩
                | 7, _ =>
                  simp only [List.getElem?_toArray, List.getElem?_cons_zero, List.getElem?_cons_succ, Option.some.injEq] at ho
                  subst ho
                  have ts : ρ (.tmp 114) = .int .i64 x := hdep 6 114 (by kernel_rfl) (by kernel_rfl)
                  simp [go_sem, ts, hf]
                  exact ⟨rfl, of_said (Ox.out _)⟩
                | 8, _ =>
                  simp only [List.getElem?_toArray, List.getElem?_cons_zero, List.getElem?_cons_succ, Option.some.injEq] at ho
                  subst ho
                  obtain ⟨m0, a0, l0, p0, d0, e0, x0, y0⟩ : IsWh w' (K : Int) 3 (ρ (.tmp 109)) := hdep 1 109 (by kernel_rfl) (by kernel_rfl)
                  obtain ⟨m1, a1, l1, p1, d1, e1, x1, y1⟩ : IsWh w' x 3 (ρ (.tmp 115)) := hdep 7 115 (by kernel_rfl) (by kernel_rfl)
                  simp [go_sem, e0, e1, hf]
                  exact ⟨rfl, times_said ⟨m0, a0, l0, p0, d0, rfl, x0, y0⟩ ⟨m1, a1, l1, p1, d1, rfl, x1, y1⟩ (by decide)⟩
                | 9, _ =>
                  simp only [List.getElem?_toArray, List.getElem?_cons_zero, List.getElem?_cons_succ, Option.some.injEq] at ho
                  subst ho
                  simp [go_sem]
                  exact ⟨(Below.refl _ _).alloc (Nat.le_refl _) _, _, rfl, var2_new _ _ _ _, hb.size⟩
              · intro V w5 q5 hS
                have e0 : V 0 = .int .i64 (K : Int) := hS 0 (by decide)
                obtain ⟨m1, a1, l1, p1, d1, e1, -, -⟩ : IsWh w5 (K : Int) 3 (V 1) := hS 1 (by decide)
                have e2 : V 2 = .slice (some ⟨b, off, none⟩) len cap := hS 2 (by decide)
                have e3 : V 3 = .int .i64 (k : Int) := hS 3 (by decide)
                have e4 : V 4 = .pointer (some ⟨b, off + k * 2, none⟩) := hS 4 (by decide)
                have e5 : V 5 = .pointer (some ⟨b, off + k * 2, none⟩) := hS 5 (by decide)
                have e6 : V 6 = .int .i64 x := hS 6 (by decide)
                obtain ⟨m7, a7, l7, p7, d7, e7, -, -⟩ : IsWh w5 x 3 (V 7) := hS 7 (by decide)
                obtain ⟨m8, a8, l8, p8, d8, e8, hw6b, -⟩ : IsWh w5 ((K : Int) * x) 6 (V 8) := hS 8 (by decide)
                obtain ⟨b9, e9, Z9, B9⟩ : IsNew w4.heap.size w5 (.bool false) (.slice none 0 0) (V 9) := hS 9 (by decide)
                simp only [List.drop_succ_cons, List.drop_zero, List.take_succ_cons, List.take_zero, puts, e0, e1, e2, e3, e4, e5, e6, e7, e8, e9]
                clear hS e0 e1 e2 e3 e4 e5 e6 e7 e8 e9 V
                have Y5 := Z9.put (.bool m8) (.slice a8 l8 p8)
                have hy5 := hw6b.store2 Z9 (fun _ h => by cases h) (fun _ h => by cases h) (.bool m8) (.slice a8 l8 p8)
                have q5' := (q5.setCell (p := ⟨b9, 0, none⟩) B9 (.bool m8)).setCell (p := ⟨b9, 1, none⟩) B9 (.slice a8 l8 p8)
                have z0 := Z9.c0
                have z1 := Z9.c1
                have zf0 := Z9.f0
                have zf1 := Z9.f1
                have X5 := X3.later q5' X3.lt
                have hx5 := hx3.below q5'
                have LW5 := q3'.trans (q5'.mono q3'.size)
                have x0 := X5.c0
                have x1 := X5.c1
                have y0 := Y5.c0
                have y1 := Y5.c1
                have hcm : cmpI (z * y) ((K : Int) * x) = 0 := by rw [HE.out]; exact cmpI_eq rfl
                clear q5 q5' q3' Z9 hw6b
                go_wp2_with (go_at_call 13; refine (cmp_any _ _ _ _ _ _ _ _ _ _ _ _ _ hx5 hy5).mono ?_; rintro e w6 ⟨rfl, hb6⟩; rw [hcm])
                go_roundg (len - (k + 1))
                case measure => omega
                case rel => exact ⟨k + 1, by omega, rfl, by go_num, hbel.trans ((LW5.trans (hb6.mono LW5.size)).mono hbel.size)⟩
          · have ek : len = k := by omega
            subst ek
            have hkk : ¬ (len : Int) < (len : Int) := by omega
            clear hlt hk
            go_wp2_with (go_at_call 10; refine (awake2 _).mono ?_; rintro e w3 ⟨rfl, hb3⟩)
            go_ret
            exact ⟨rfl, (B2.trans (hbel.mono B2.size)).trans (hb3.mono (B2.trans (hbel.mono B2.size)).size)⟩
end Go.Proofs.Ytcklodmhlhjipab
